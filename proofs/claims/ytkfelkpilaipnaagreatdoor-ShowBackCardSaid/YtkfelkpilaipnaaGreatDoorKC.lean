/- Part of the proofs over this program: YaccRule, YaccGroup, YaccDecl, GramL, GmL, CfgLeaf, Ref8R, LexRef, CfgRef. -/
import Derived.Deep.DeepCutAuto
import Derived.IntWalk
import Derived.Test.YtkfelkpilaipnaaGreatDoorKB
namespace Go.Proofs.YtkfelkpilaipnaaGreatDoor
set_option maxRecDepth 100000
set_option maxHeartbeats 40000000
open Go.RowKit
theorem ziS (L:List Int) (B R px py:Nat) (ts:List Tok) (left:Tok) (w:World) (hr:Rdr L B R px py w ts) :
  Calls Tryz.prog 156 #[.pointer (some ⟨R,0,none⟩),bK L left] w (zfl L B R px py w (VPrd L w.heap.size) (Y.rule left ts)):=by
 have HR:=aA hr
 have hRlt:=hr.lt
 have SC:=fun a w m X Y=>show(store a (.complex .f64 X Y) m).run Tryz.prog w=stored Tryz.prog w a (.complex .f64 X Y) m from run_store _ w a _ m rfl
 clear hr
 unfold bK
 go_enter Tryz.func156,Tryz.ntmps156
 go_upto_region 1 with fail
 obtain⟨w1,hw1⟩:∃x,x=(w.alloc (.cells #[.string (K.str left.t),.complex .f64 (Fl.fl (Pl.pos (L.take left.o)).1) (Fl.fl (Pl.pos (L.take left.o)).2)] 90)).alloc (.cells #[.string ⟨#[]⟩,.complex .f64 0 0,.slice none 0 0,.string ⟨#[]⟩,.complex .f64 0 0] 104):=⟨_,rfl⟩
 rw[←hw1]
 have HG1:Hid (w.grownBy w1 .none):=aA (by rw[hw1];exact aC (aC (World.grownBy.refl _ _) _) _)
 have HB3:Hid (w1.heap[w.heap.size]?=some (.cells #[.string (K.str left.t),.complex .f64 (Fl.fl (Pl.pos (L.take left.o)).1) (Fl.fl (Pl.pos (L.take left.o)).2)] 90 (0,0))):=aA (by
  rw[hw1,Below.heap_alloc _ _ _ (by simp)];exact heap_alloc_new w _)
 have HB4:Hid (w1.heap[w.heap.size+1]?=some (.cells #[.string ⟨#[]⟩,.complex .f64 0 0,.slice none 0 0,.string ⟨#[]⟩,.complex .f64 0 0] 104 (0,0))):=aA (by
  rw[hw1];have:=heap_alloc_new (w.alloc (.cells #[.string (K.str left.t),.complex .f64 (Fl.fl (Pl.pos (L.take left.o)).1) (Fl.fl (Pl.pos (L.take left.o)).2)] 90)) (.cells #[.string ⟨#[]⟩,.complex .f64 0 0,.slice none 0 0,.string ⟨#[]⟩,.complex .f64 0 0] 104);rwa [show(w.alloc (.cells #[.string (K.str left.t),.complex .f64 (Fl.fl (Pl.pos (L.take left.o)).1) (Fl.fl (Pl.pos (L.take left.o)).2)] 90)).heap.size=w.heap.size+1 by simp]at this)
 have HS1:Hid (w1.heap.size=w.heap.size+2):=aA (by rw[hw1];simp)
 have HR1:Hid (Rdr L B R px py w1 ts):=aA (HR.out.row HG1.out)
 clear hw1
 go_cut [5] (fun s5 wx=>∃g A c,s5=.pointer (some ⟨g,0,none⟩)∧w.heap.size+2≤g∧wx.heap[g]?=some (.cells (aX L ⟨left,ts.takeWhile Y.isRef,none⟩ A c).toArray 104 (0,0))∧RdR L wx w.heap.size A (ts.takeWhile Y.isRef)∧Rdr L B R px py wx (ts.dropWhile Y.isRef)∧w1.grownBy wx (some R))
 case first =>
  have CL0:=fun y:Calm.OnR R w1=>(show y.1.cell? ⟨w.heap.size,0,none⟩=some (.string (K.str left.t)) by rw[cell_of_row y.1 _ 0 _ _ _ (aK y.2 HB3.out (by omega))];rfl)
  have CL1:=fun y:Calm.OnR R w1=>(show y.1.cell? ⟨w.heap.size,1,none⟩=some (.complex .f64 (Fl.fl (Pl.pos (L.take left.o)).1) (Fl.fl (Pl.pos (L.take left.o)).2)) by rw[cell_of_row y.1 _ 1 _ _ _ (aK y.2 HB3.out (by omega))];rfl)
  have hd1:w1.grownBy w1.drew (some R):=aE w1 _
  refine Calm.region_tree (fun x=>∃y:Calm.OnR R w1,x=y.1) (.two [0,1] 2 (.one [3] 4 (.one [] 5 (.fin []))) 4 (.one [] 2 (.one [3] 5 (.fin [])))) (by kernel_rfl) (by kernel_rfl) (fun _ _ d _ _ h=>by cases d <;> exact h) ⟨⟨w1.drew,hd1⟩,rfl⟩ ?_
  simp only[Calm.wpT,Calm.wpSt,Calm.pickOps,List.getElem?_toArray,List.getElem?_cons_zero,List.getElem?_cons_succ]
  repeat (go_big_quiet_step (fail))
  refine wpQuiet_nil ?_
  have HRF:=aA (fun(x:World) (h:w1.grownBy x (some R)) (hx:Rdr L B R px py x ts)=>zfz L B R px py ts x hx)
  refine⟨?_,?_⟩
  ·intro KK hKK
   rw[if_pos (by rfl)]
   go_wp2_with fail
   refine(HRF.out _ hd1 HR1.out.drew).mono ?_;rintro _ w2 ⟨hg2,v,rfl,ho,hrd⟩
   obtain⟨A,c,rfl,hc1,hc2,hrr⟩:=ho.rd
   have hg:w1.grownBy w2 (some R):=hd1.trans hg2
   clear ho hg2 hc1 hc2
   go_wp2_with fail
   refine hKK _ _ ⟨⟨w2,hg⟩,rfl⟩ (fun x=>∃y:Calm.OnR R w1,x=y.1) (fun _ h=>h) ⟨⟨w2,hg⟩,rfl⟩ ?_
   repeat (go_big_quiet_step (fail))
   refine wpQuiet_nil ?_
   intro KK hKK
   rw[if_pos (by rfl)]
   go_wp2_with fail
   refine hKK _ _ ⟨⟨_,aC hg _⟩,rfl⟩ (fun x=>∃y:Calm.OnR R w1,x=y.1) (fun _ h=>h) ⟨⟨_,aC hg _⟩,rfl⟩ ?_
   repeat (go_big_quiet_step (fail))
   refine wpQuiet_nil ?_
   intro KK hKK
   try rw[if_pos (by rfl)]
   go_wp2_with fail
   refine hKK _ _ ⟨⟨_,aC hg _⟩,rfl⟩ (fun x=>∃y:Calm.OnR R w1,x=y.1) (fun _ h=>h) ⟨⟨_,aC hg _⟩,rfl⟩ ?_
   refine wpQuiet_nil ?_
   go_wp2_with fail
   go_meet
   case rel =>
    refine⟨w2.heap.size,A,c,rfl,by have:=hg.size;have:=HS1.out;omega,heap_alloc_new _ _,(hrr.less (by have:=HS1.out;simp;omega)).grown (aC (World.grownBy.refl _ _) _) (bA.none _),hrd.alloc _,aC hg _⟩
  ·intro KK hKK
   rw[if_pos (by rfl)]
   go_wp2_with fail
   obtain⟨w2,hw2⟩:∃x,x=(w1.alloc (.cells #[.string ⟨#[]⟩,.complex .f64 0 0,.slice none 0 0,.string ⟨#[]⟩,.complex .f64 0 0] 104)).drew:=⟨_,rfl⟩
   rw[←hw2]
   have hg2:w1.grownBy w2 .none:=by rw[hw2];exact(aC (World.grownBy.refl _ _) _).trans (aE _ _)
   have hb2:w2.heap[w1.heap.size]?=some (.cells #[.string ⟨#[]⟩,.complex .f64 0 0,.slice none 0 0,.string ⟨#[]⟩,.complex .f64 0 0] 104 (0,0)):=by rw[hw2];exact heap_alloc_new w1 _
   have hr2:=HR1.out.row hg2
   clear hw2
   refine hKK _ _ ⟨⟨w2,hg2.row _⟩,rfl⟩ (fun x=>∃y:Calm.OnR R w1,x=y.1) (fun _ h=>h) ⟨⟨w2,hg2.row _⟩,rfl⟩ ?_
   refine wpQuiet_nil ?_
   intro KK hKK
   try rw[if_pos (by rfl)]
   go_wp2_with fail
   refine(HRF.out _ (hg2.row _) hr2).mono ?_;rintro _ w3 ⟨hg3,v,rfl,ho,hrd⟩
   obtain⟨A,c,rfl,hc1,hc2,hrr⟩:=ho.rd
   have hg:w1.grownBy w3 (some R):=(hg2.row _).trans hg3
   have hb3:=aK hg3 hb2 (by have:=HS1.out;omega)
   clear ho hc1 hc2
   go_wp2_with fail
   refine hKK _ _ ⟨⟨w3,hg⟩,rfl⟩ (fun x=>∃y:Calm.OnR R w1,x=y.1) (fun _ h=>h) ⟨⟨w3,hg⟩,rfl⟩ ?_
   repeat (go_big_quiet_step (fail))
   refine wpQuiet_nil ?_
   intro KK hKK
   try rw[if_pos (by rfl)]
   have c0:=cell_of_row w3 _ 0 _ _ _ hb3
   have c1:=cell_of_row w3 _ 1 _ _ _ hb3
   have c2:=cell_of_row w3 _ 2 _ _ _ hb3
   have c3:=cell_of_row w3 _ 3 _ _ _ hb3
   have c4:=cell_of_row w3 _ 4 _ _ _ hb3
   have f0:=frozen_of_row w3 _ 0 _ _ hb3
   have f1:=frozen_of_row w3 _ 1 _ _ hb3
   have f2:=frozen_of_row w3 _ 2 _ _ hb3
   have f3:=frozen_of_row w3 _ 3 _ _ hb3
   have f4:=frozen_of_row w3 _ 4 _ _ hb3
   go_wp2_with fail
   have HGE:=aA (fun u0 u1 u2 u3 u4=>aI (aI (aI (aI (aI hg w1.heap.size 0 u0 (Nat.le_refl _)) w1.heap.size 1 u1 (Nat.le_refl _)) w1.heap.size 2 u2 (Nat.le_refl _)) w1.heap.size 3 u3 (Nat.le_refl _)) w1.heap.size 4 u4 (Nat.le_refl _))
   refine hKK _ _ ⟨⟨_,HGE.out _ _ _ _ _⟩,rfl⟩ (fun x=>∃y:Calm.OnR R w1,x=y.1) (fun _ h=>h) ⟨⟨_,HGE.out _ _ _ _ _⟩,rfl⟩ ?_
   refine wpQuiet_nil ?_
   go_wp2_with fail
   go_meet
   case rel =>
    have hRg:R<w1.heap.size:=by have:=HS1.out;omega
    refine⟨w1.heap.size,A,c,rfl,by have:=HS1.out;omega,zjK hb3 _ _ _ _ _,(hrr.less (by have:=hg2.size;have:=HS1.out;omega)).grown (aD (aD (aD (aD (aD (World.grownBy.refl _ _) _ _) _ _) _ _) _ _) _ _) (zac hb3 (by decide)),((((hrd.far _ _ _ hRg).far _ _ _ hRg).far _ _ _ hRg).far _ _ _ hRg).far _ _ _ hRg,HGE.out _ _ _ _ _⟩
 case rest =>
  obtain⟨g,A,c,rfl,hg2,hbk,hrr,hrd,hgr⟩:=hcut
  have HG:=aA hg2
  have HBK:=aA hbk
  have HRR:=aA hrr
  have HRD:=aA hrd
  have HGR:=aA hgr
  clear hg2 hbk hrr hrd hgr
  have HY:Hid (Y.rule left ts=Y.rule2 left (ts.takeWhile Y.isRef) (ts.dropWhile Y.isRef)):=aA rfl
  have HI4:Hid (g≠R∧w.heap.size+1≠R∧w.heap.size≤g∧w.heap.size+1≠g):=aA (by have:=HG.out;omega)
  clear HB3 HR HR1
  generalize ts.takeWhile Y.isRef=rs at *
  generalize ts.dropWhile Y.isRef=rest at *
  have HIS:=aA (zh5 L B R px py rest [8] wc HRD.out (by decide))
  rcases hb:Y.is [8] rest with _|_
  ·rw[hb]at HIS
   have HYY:Hid (Y.rule left ts=.ok ⟨left,rs,none⟩ rest):=aA (by rw[HY.out];unfold Y.rule2;rw[hb];rfl)
   clear hb HY
   go_wp2_with fail
   refine HIS.out.mono ?_;rintro _ w3 ⟨rfl,hg3⟩
   have hgr:=HGR.out.trans (hg3.row (some R))
   have hbg:=aK (hg3.row (some R)) HBK.out HI4.out.1
   have hb4:=aK hgr HB4.out HI4.out.2.1
   have HGR3:=aA ((HG1.out.row (some R)).trans hgr)
   have HRD3:=aA (HRD.out.row hg3)
   have HRR3:=aA (HRR.out.grown hg3 (bA.none _))
   have HO4:=aA (zac hb4 (by decide))
   have c0:w3.cell? ⟨g,0,none⟩=some (.string (K.str left.t)):=by rw[cell_of_row w3 g 0 _ _ _ hbg];rfl
   have c1:w3.cell? ⟨g,1,none⟩=some (.complex .f64 (Fl.fl (Pl.pos (L.take left.o)).1) (Fl.fl (Pl.pos (L.take left.o)).2)):=by rw[cell_of_row w3 g 1 _ _ _ hbg];rfl
   have c2:w3.cell? ⟨g,2,none⟩=some (.slice A rs.length c):=by rw[cell_of_row w3 g 2 _ _ _ hbg];rfl
   have c3:w3.cell? ⟨g,3,none⟩=some (.string ⟨#[]⟩):=by rw[cell_of_row w3 g 3 _ _ _ hbg];rfl
   have c4:w3.cell? ⟨g,4,none⟩=some (.complex .f64 0 0):=by rw[cell_of_row w3 g 4 _ _ _ hbg];rfl
   have d0:=cell_of_row w3 _ 0 _ _ _ hb4
   have d1:=cell_of_row w3 _ 1 _ _ _ hb4
   have d2:=cell_of_row w3 _ 2 _ _ _ hb4
   have d3:=cell_of_row w3 _ 3 _ _ _ hb4
   have d4:=cell_of_row w3 _ 4 _ _ _ hb4
   have f0:=frozen_of_row w3 _ 0 _ _ hb4
   have f1:=frozen_of_row w3 _ 1 _ _ hb4
   have f2:=frozen_of_row w3 _ 2 _ _ hb4
   have f3:=frozen_of_row w3 _ 3 _ _ hb4
   have f4:=frozen_of_row w3 _ 4 _ _ hb4
   clear hbg hb4 hg3 hgr
   go_wp2
   rw[HYY.out]
   refine bodyPost_ret (v:=.agg #[.string (K.str left.t),.complex .f64 (Fl.fl (Pl.pos (L.take left.o)).1) (Fl.fl (Pl.pos (L.take left.o)).2),.slice A rs.length c,.string ⟨#[]⟩,.complex .f64 0 0]) (by simp[results,Tryz.results156,go_sem,d0,d1,d2,d3,d4]) rfl ⟨aI (aI (aI (aI (aI HGR3.out _ _ _ (by omega)) _ _ _ (by omega)) _ _ _ (by omega)) _ _ _ (by omega)) _ _ _ (by omega),_,rfl,((((HRD3.out.far _ _ _ (by omega)).far _ _ _ (by omega)).far _ _ _ (by omega)).far _ _ _ (by omega)).far _ _ _ (by omega),A,c,rfl,HRR3.out.grown (aD (aD (aD (aD (aD (World.grownBy.refl _ _) _ _) _ _) _ _) _ _) _ _) HO4.out⟩
  ·rw[hb]at HIS
   obtain⟨t8,r8,hrest,htk,_⟩:=Y.is_true hb
   have HTK:=aA (fun(x:World) (h:wc.grownBy x .none)=>(htk▸zfs L B R px py rest [8] x (HRD.out.row h) (by decide):Calls Tryz.prog 119 _ _ (zfl L B R px py x (fun t v _=>v=zgT L t) (.ok t8 r8))))
   have HRF:=aA (fun(x:World) (h:Rdr L B R px py x r8)=>zeU L B R px py r8 [1,2] x h (by decide))
   have HYY:Hid (Y.rule left ts=(Y.take [1,2] r8).bind fun p r=>.ok ⟨left,rs,some p⟩ r):=aA (by rw[HY.out];unfold Y.rule2;rw[hb,htk];rfl)
   clear hb HY hrest htk
   unfold zgT at HTK
   unfold bK at HRF
   rcases hres:Y.take [1,2] r8 with⟨p,r⟩|p
   ·rw[hres]at HRF HYY
    clear hres
    go_wp2_with fail
    refine HIS.out.mono ?_;rintro _ w3 ⟨rfl,hg3⟩
    have HG3:=aA hg3
    clear hg3
    go_wp2_with fail
    refine(HTK.out _ HG3.out).mono ?_;rintro _ w4 ⟨hg4,v,rfl,hrd4,rfl⟩
    have HG4:=aA hg4
    have HRD4:=aA hrd4
    clear hg4 hrd4
    go_wp2_with fail
    refine(HRF.out _ HRD4.out).mono ?_;rintro _ w5 ⟨hg5,v,rfl,hrd5,rfl⟩
    have hgr:=((HG3.out.row (some R)).trans HG4.out).trans hg5
    have hbg:=aK hgr HBK.out HI4.out.1
    have hb4:=aK (HGR.out.trans hgr) HB4.out HI4.out.2.1
    have HGR5:=aA ((HG1.out.row (some R)).trans (HGR.out.trans hgr))
    have HRD5:=aA hrd5
    have HRR5:=aA (HRR.out.grown hgr HRD.out.other)
    have HO4:=aA (zac hb4 (by decide))
    have HOg:=aA (zac hbg (by decide))
    have c0:w5.cell? ⟨g,0,none⟩=some (.string (K.str left.t)):=by rw[cell_of_row w5 g 0 _ _ _ hbg];rfl
    have c1:w5.cell? ⟨g,1,none⟩=some (.complex .f64 (Fl.fl (Pl.pos (L.take left.o)).1) (Fl.fl (Pl.pos (L.take left.o)).2)):=by rw[cell_of_row w5 g 1 _ _ _ hbg];rfl
    have c2:w5.cell? ⟨g,2,none⟩=some (.slice A rs.length c):=by rw[cell_of_row w5 g 2 _ _ _ hbg];rfl
    have c3:w5.cell? ⟨g,3,none⟩=some (.string ⟨#[]⟩):=by rw[cell_of_row w5 g 3 _ _ _ hbg];rfl
    have c4:w5.cell? ⟨g,4,none⟩=some (.complex .f64 0 0):=by rw[cell_of_row w5 g 4 _ _ _ hbg];rfl
    have e3:=frozen_of_row w5 g 3 _ _ hbg
    have e4:=frozen_of_row w5 g 4 _ _ hbg
    have d0:=cell_of_row w5 _ 0 _ _ _ hb4
    have d1:=cell_of_row w5 _ 1 _ _ _ hb4
    have d2:=cell_of_row w5 _ 2 _ _ _ hb4
    have d3:=cell_of_row w5 _ 3 _ _ _ hb4
    have d4:=cell_of_row w5 _ 4 _ _ _ hb4
    have f0:=frozen_of_row w5 _ 0 _ _ hb4
    have f1:=frozen_of_row w5 _ 1 _ _ hb4
    have f2:=frozen_of_row w5 _ 2 _ _ hb4
    have f3:=frozen_of_row w5 _ 3 _ _ hb4
    have f4:=frozen_of_row w5 _ 4 _ _ hb4
    obtain⟨_,_,hgw,hne⟩:=HI4.out
    have HB45:=aA (fun u3 u4=>((Below.heap_setCell (w5.setCell ⟨g,3,none⟩ u3) ⟨g,4,none⟩ u4 (w.heap.size+1) hne).trans ((Below.heap_setCell w5 ⟨g,3,none⟩ u3 (w.heap.size+1) hne).trans hb4)))
    clear hbg hb4 hgr hg5 hrd5
    go_wp2
    rw[HYY.out]
    refine bodyPost_ret (v:=.agg #[.string (K.str left.t),.complex .f64 (Fl.fl (Pl.pos (L.take left.o)).1) (Fl.fl (Pl.pos (L.take left.o)).2),.slice A rs.length c,.string (K.str p.t),.complex .f64 (Fl.fl (Pl.pos (L.take p.o)).1) (Fl.fl (Pl.pos (L.take p.o)).2)]) (by simp[results,Tryz.results156,go_sem,d0,d1,d2,d3,d4]) rfl ⟨aI (aI (aI (aI (aI (aI (aI HGR5.out _ _ _ hgw) _ _ _ hgw) _ _ _ (by omega)) _ _ _ (by omega)) _ _ _ (by omega)) _ _ _ (by omega)) _ _ _ (by omega),_,rfl,((((((HRD5.out.far _ _ _ (by omega)).far _ _ _ (by omega)).far _ _ _ (by omega)).far _ _ _ (by omega)).far _ _ _ (by omega)).far _ _ _ (by omega)).far _ _ _ (by omega),A,c,rfl,(HRR5.out.grown (aD (aD (World.grownBy.refl _ _) _ _) _ _) HOg.out).grown (aD (aD (aD (aD (aD (World.grownBy.refl _ _) _ _) _ _) _ _) _ _) _ _) (zac (HB45.out _ _) (by decide))⟩
   ·rw[hres]at HRF HYY
    clear hres
    go_wp2_with fail
    refine HIS.out.mono ?_;rintro _ w3 ⟨rfl,hg3⟩
    have HG3:=aA hg3
    clear hg3
    go_wp2_with fail
    refine(HTK.out _ HG3.out).mono ?_;rintro _ w4 ⟨hg4,v,rfl,hrd4,rfl⟩
    have HG4:=aA hg4
    have HRD4:=aA hrd4
    clear hg4 hrd4
    go_wp2_with fail
    refine(HRF.out _ HRD4.out).mono ?_;rintro _ w5 ⟨hg5,rfl⟩
    rw[HYY.out]
    exact⟨rfl,(HG1.out.row (some R)).trans (HGR.out.trans (((HG3.out.row (some R)).trans HG4.out).trans hg5)),rfl⟩
theorem zez (k:Int) (y z:Value) (w:World):(Instr.field 122 (.agg #[.int .i64 k,y,z]) 0).run Tryz.prog w=.ok (.int .i64 k) w:=by kernel_rfl
def GAt (L:List Int) (B R px py:Nat) (a:World) (left:Tok) (g5:Nat) (RES:Y.Res (List Y.Prd)) (f:Nat) (acc:List Y.Prd) (ts:List Tok) (v:Value) (w:World):Prop :=
 a.grownBy w (some R)∧Rdr L B R px py w ts∧bG L w a.heap.size v acc∧acc.length+ts.length≤8000∧ts.length<f∧a.heap.size≤g5∧w.heap[g5]?=some (.cells #[.string (K.str left.t),.complex .f64 (Fl.fl (Pl.pos (L.take left.o)).1) (Fl.fl (Pl.pos (L.take left.o)).2)] 90 (0,0))∧Y.alts f left acc ts=RES
theorem zew (L:List Int) (B R px py:Nat) (ts:List Tok) (a w:World) (v:Value) (ps:List Y.Prd) (hr:Rdr L B R px py w ts) (ha:a.grownBy w (some R)) (hR:R<a.heap.size) (hp:bG L w a.heap.size v ps) (hn:ps.length+ts.length≤8000) :
  Calls Tryz.prog 120 #[.pointer (some ⟨R,0,none⟩),v] w (zfl L B R px py a (fun ps v w=>bG L w a.heap.size v ps) (Y.group ps ts)):=by
 have HR:=aA hr
 have HA:=aA ha
 have HP:=aA hp
 have SC:=fun a w m X Y=>show(store a (.complex .f64 X Y) m).run Tryz.prog w=stored Tryz.prog w a (.complex .f64 X Y) m from run_store _ w a _ m rfl
 have SF:=zez
 have HRF:=aA (zhw L B R px py ts [1] (by decide) w)
 have HG:Hid (Y.group ps ts=(Y.take [1] ts).bind fun left r=>(Y.take [10] r).bind fun _ r=>Y.alts (r.length+1) left ps r):=aA rfl
 unfold bK at HRF
 clear hr ha hp
 rcases h1:Y.take [1] ts with⟨left,r1⟩|p
 ·rw[h1]at HRF HG
  have HTS:Hid (ts.length=r1.length+1):=aA (by rw[(Y.take_ok h1).1];rfl)
  clear h1
  have HTK:=aA (fun(x:World)=>zcc L B R px py r1 [10] (by decide) x)
  unfold zgT at HTK
  rcases h2:Y.take [10] r1 with⟨tc,r2⟩|p
  ·rw[h2]at HTK
   have HTS2:Hid (r1.length=r2.length+1):=aA (by rw[(Y.take_ok h2).1];rfl)
   have HG2:Hid (Y.group ps ts=Y.alts (r2.length+1) left ps r2):=aA (by rw[HG.out,Y.bind_ok,h2,Y.bind_ok])
   clear h2 HG
   generalize Y.group ps ts=RES at *
   go_enter Tryz.func120,Tryz.ntmps120
   go_wp2
   refine zae 0 (fun a' w'=>∃(g5 f:Nat) (acc:List Y.Prd) (rest:List Tok) (v':Value),GAt L B R px py a left g5 RES f acc rest v' w'∧∃(u2 u3 u6 u7 u8 u9 u10 u11 u12 u13 u14 u15 u16 u17 u18 u19 u20 u21 u22 u23:Value),a' = {tmps:=#[.pointer (some ⟨R,0,none⟩),v',u2,u3,.slice none 0 0,.pointer (some ⟨g5,0,none⟩),u6,u7,u8,u9,u10,u11,u12,u13,u14,u15,u16,u17,u18,u19,u20,u21,u22,u23],defers:=[]}) (fun a' _=>8001-zaZ (a'.tmps.getD 1 undef)) rfl ?_ ?_
   ·rintro a' w' ⟨g5,f,acc,rest,v',hat,u2,u3,u6,u7,u8,u9,u10,u11,u12,u13,u14,u15,u16,u17,u18,u19,u20,u21,u22,u23,rfl⟩
    obtain⟨hg,hrd,ho,hlen,hf,hg5,hb5,hal⟩:=hat
    have HGR:=aA hg
    have HRD:=aA hrd
    have HO:=aA ho
    have HL:=aA hlen
    have HF:=aA hf
    have HG5:=aA hg5
    have HB5:=aA hb5
    have HAL:=aA hal
    have c0:=cell_of_row w' g5 0 _ _ _ hb5
    have c1:=cell_of_row w' g5 1 _ _ _ hb5
    have HRU:=aA (ziS L B R px py rest left w' hrd)
    unfold bK at HRU
    obtain⟨A',c',rfl,hac,hcm⟩:=ho.form
    clear hg hrd ho hlen hf hg5 hb5 hal hac hcm
    obtain⟨f,rfl⟩:∃f',f=f'+1:=⟨f-1,by have:=HF.out;omega⟩
    have HAL2:Hid ((Y.rule left rest).bind (fun p r=>(Y.take [11,12] r).bind fun t r=>if t.k=11 then Y.alts f left (acc++[p]) r else .ok (acc++[p]) r)=RES):=aA HAL.out
    have HSZ:Hid (a.heap.size≤w'.heap.size):=aA HGR.out.size
    clear HAL HRF HTK
    rcases hru:Y.rule left rest with⟨p,r⟩|p
    ·rw[hru]at HRU HAL2
     rw[Y.bind_ok]at HAL2
     have hrl:=zdt hru
     have HRL:=aA hrl
     clear hru hrl
     have HTA:=aA (fun(x:World)=>zcc L B R px py r [11,12] (by decide) x)
     unfold zgT at HTA
     obtain⟨x3,x4,hx⟩:=za6 L p.p
     have HPC:=aA (fun A c=>(show(aX L p A c)=[.string (K.str p.l.t),.complex .f64 (Fl.fl (Pl.pos (L.take p.l.o)).1) (Fl.fl (Pl.pos (L.take p.l.o)).2),.slice A p.r.length c,x3,x4] by unfold aX;rw[hx];rfl))
     clear hx
     rcases hta:Y.take [11,12] r with⟨t,r'⟩|q
     ·rw[hta]at HTA HAL2
      rw[Y.bind_ok]at HAL2
      have HTL:Hid (r.length=r'.length+1):=aA (by rw[(Y.take_ok hta).1];rfl)
      clear hta
      go_wp2_with fail
      refine HRU.out.mono ?_;rintro _ w2 ⟨hg2,v2,rfl,hrd2,A,c,hv,hrr⟩
      rw[HPC.out]at hv
      subst hv
      have HG2:=aA hg2
      have HRD2:=aA hrd2
      have HRR2:=aA (hrr.less HSZ.out)
      have HO2:=aA (HO.out.grown hg2 (HO.out.away HRD.out hR))
      have HB52:=aA (zas HB5.out hg2 HRD.out.other)
      have HGR2:=aA (HGR.out.trans hg2)
      clear hg2 hrd2 hrr
      obtain⟨zs,hown⟩:=HO2.out.own
      have HW:=aA hown
      clear hown
      have HCE:Hid (∀j u,(aX L p A c)[j]?=some u→(w2.alloc (.cells #[.string (K.str p.l.t),.complex .f64 (Fl.fl (Pl.pos (L.take p.l.o)).1) (Fl.fl (Pl.pos (L.take p.l.o)).2),.slice A p.r.length c,x3,x4] 104)).cell? ⟨w2.heap.size,j,none⟩=some u):=aA (by
       intro j u hu
       rw[World.cell?_alloc_new]
       rw[HPC.out]at hu
       simpa using hu)
      have HAC:Hid (acc.length≤8000):=aA (by have:=HL.out;omega)
      go_wp2_with (at_builtin;refine zbN rfl (.tmp 12) (.tmp 16) _ rfl Tryz.underlying58 L a.heap.size _ acc rfl (HO2.out.grown (aC (World.grownBy.refl _ _) _) (bM.none _ _)) w2.heap.size 1 p A c rfl HCE.out (HRR2.out.grown (aC (World.grownBy.refl _ _) _) (bA.none _)) (by have:=HAC.out;omega) (by have:=HGR2.out.size;simp;omega) ?_;intro v3 w3 ho3 hg3)
      have HO3:=aA ho3
      have HGR3:=aA (aS (aC HGR2.out _) (HW.out.alloc _) hg3)
      have HRD3:=aA ((HRD2.out.alloc _).own (HW.out.alloc _) hg3 hR)
      have HB53:=aA (zas (zas HB52.out (aC (World.grownBy.refl _ _) _) (bA.none _)) hg3 (zaA (HW.out.alloc _) (by decide)))
      clear ho3 hg3
      have HO4f:=aA (fun(w4:World) (h:w3.grownBy w4 (some R))=>HO3.out.grown h (HO3.out.away HRD3.out hR))
      by_cases hk:t.k=11
      ·have hk':(t.k==11)=true:=by simpa using hk
       rw[if_pos hk]at HAL2
       clear hk
       go_wp2_with fail
       refine(HTA.out _ _ _ rfl rfl HRD3.out).mono ?_;rintro _ w4 ⟨hg4,v4,rfl,hrd4,rfl⟩
       have HO4:=aA (HO4f.out w4 hg4)
       have HB54:=aA (zas HB53.out hg4 HRD3.out.other)
       have HGR4:=aA (HGR3.out.trans hg4)
       have HRD4:=aA hrd4
       clear hg4 hrd4
       obtain⟨A4,c4,rfl,_,_⟩:=HO4.out.form
       rw[show(acc++[p]).length=acc.length+1 by simp]at HO4
       go_wp2
       go_step3
       refine⟨rfl,⟨g5,f,acc++[p],r',.slice A4 (acc.length+1) c4,⟨HGR4.out,HRD4.out,HO4.out,by have:=HL.out;have:=HRL.out;have:=HTL.out;simp;omega,by have:=HF.out;have:=HRL.out;have:=HTL.out;omega,HG5.out,HB54.out,HAL2.out⟩,_,_,_,_,_,_,_,_,_,_,_,_,_,_,_,_,_,_,_,_,rfl⟩,?_⟩
       have:=HAC.out
       simp[zaZ]
       omega
      ·have hk':(t.k==11)=false:=by simpa using hk
       rw[if_neg hk]at HAL2
       clear hk
       obtain rfl:RES=.ok (acc++[p]) r':=HAL2.out.symm
       go_wp2_with fail
       refine(HTA.out _ _ _ rfl rfl HRD3.out).mono ?_;rintro _ w4 ⟨hg4,v4,rfl,hrd4,rfl⟩
       have HO4:=aA (HO4f.out w4 hg4)
       have HGR4:=aA (HGR3.out.trans hg4)
       have HRD4:=aA hrd4
       clear hg4 hrd4
       go_wp2
       simp only[Exit.jump]
       go_ret
       exact⟨HGR4.out,_,rfl,HRD4.out,HO4.out⟩
     ·rw[hta]at HTA HAL2
      clear hta
      obtain rfl:RES=.bad q:=HAL2.out.symm
      go_wp2_with fail
      refine HRU.out.mono ?_;rintro _ w2 ⟨hg2,v2,rfl,hrd2,A,c,hv,hrr⟩
      rw[HPC.out]at hv
      subst hv
      have HG2:=aA hg2
      have HRD2:=aA hrd2
      have HRR2:=aA (hrr.less HSZ.out)
      have HO2:=aA (HO.out.grown hg2 (HO.out.away HRD.out hR))
      have HB52:=aA (zas HB5.out hg2 HRD.out.other)
      have HGR2:=aA (HGR.out.trans hg2)
      clear hg2 hrd2 hrr
      obtain⟨zs,hown⟩:=HO2.out.own
      have HW:=aA hown
      clear hown
      have HCE:Hid (∀j u,(aX L p A c)[j]?=some u→(w2.alloc (.cells #[.string (K.str p.l.t),.complex .f64 (Fl.fl (Pl.pos (L.take p.l.o)).1) (Fl.fl (Pl.pos (L.take p.l.o)).2),.slice A p.r.length c,x3,x4] 104)).cell? ⟨w2.heap.size,j,none⟩=some u):=aA (by
       intro j u hu
       rw[World.cell?_alloc_new]
       rw[HPC.out]at hu
       simpa using hu)
      have HAC:Hid (acc.length≤8000):=aA (by have:=HL.out;omega)
      go_wp2_with (at_builtin;refine zbN rfl (.tmp 12) (.tmp 16) _ rfl Tryz.underlying58 L a.heap.size _ acc rfl (HO2.out.grown (aC (World.grownBy.refl _ _) _) (bM.none _ _)) w2.heap.size 1 p A c rfl HCE.out (HRR2.out.grown (aC (World.grownBy.refl _ _) _) (bA.none _)) (by have:=HAC.out;omega) (by have:=HGR2.out.size;simp;omega) ?_;intro v3 w3 ho3 hg3)
      have HO3:=aA ho3
      have HGR3:=aA (aS (aC HGR2.out _) (HW.out.alloc _) hg3)
      have HRD3:=aA ((HRD2.out.alloc _).own (HW.out.alloc _) hg3 hR)
      have HB53:=aA (zas (zas HB52.out (aC (World.grownBy.refl _ _) _) (bA.none _)) hg3 (zaA (HW.out.alloc _) (by decide)))
      clear ho3 hg3
      go_wp2_with fail
      refine(HTA.out _ _ _ rfl rfl HRD3.out).mono ?_;rintro _ w4 ⟨hg4,rfl⟩
      exact⟨rfl,HGR3.out.trans hg4,rfl⟩
    ·rw[hru]at HRU HAL2
     clear hru
     obtain rfl:RES=.bad p:=HAL2.out.symm
     go_wp2_with fail
     refine HRU.out.mono ?_;rintro _ w2 ⟨hg2,rfl⟩
     exact⟨rfl,HGR.out.trans hg2,rfl⟩
   ·intro hp
    go_wp2_with fail
    refine(HRF.out _ _ rfl rfl HR.out).mono ?_;rintro _ w1 ⟨hg1,v1,rfl,hrd1,rfl⟩
    have HG1:=aA hg1
    have HRD1:=aA hrd1
    clear hg1 hrd1
    go_wp2_with fail
    refine(HTK.out _ _ _ rfl (by simp) (HRD1.out.alloc _)).mono ?_;rintro _ w2 ⟨hg2,v2,rfl,hrd2,rfl⟩
    have hb5:w2.heap[w1.heap.size]?=some (.cells #[.string (K.str left.t),.complex .f64 (Fl.fl (Pl.pos (L.take left.o)).1) (Fl.fl (Pl.pos (L.take left.o)).2)] 90 (0,0)):=aK hg2 (heap_alloc_new w1 _) (by have:=HA.out.size;have:=HG1.out.size;omega)
    have HO2:=aA (((HP.out.grown HG1.out (HP.out.away HR.out hR)).grown (aC (World.grownBy.refl _ _) _) (bM.none _ _)).grown hg2 (((HP.out.grown HG1.out (HP.out.away HR.out hR)).grown (aC (World.grownBy.refl _ _) _) (bM.none _ _)).away (HRD1.out.alloc _) hR))
    have HGR2:=aA ((HA.out.trans HG1.out).trans ((aC (World.grownBy.refl _ _) _).trans hg2))
    go_wp2
    go_step3
    rename_i hK
    refine hK _ _ (hp _ _ ⟨w1.heap.size,r2.length+1,ps,r2,v,⟨HGR2.out,hrd2,HO2.out,by have:=HTS.out;have:=HTS2.out;omega,by omega,by have:=HA.out.size;have:=HG1.out.size;omega,hb5,HG2.out.symm⟩,_,_,_,_,_,_,_,_,_,_,_,_,_,_,_,_,_,_,_,_,rfl⟩)
  ·rw[h2]at HTK
   have HG2:Hid (Y.group ps ts=.bad p):=aA (by rw[HG.out,Y.bind_ok,h2,Y.bind_bad])
   rw[HG2.out]
   clear h2 HG
   go_enter Tryz.func120,Tryz.ntmps120
   go_wp2
   refine zae 0 (fun _ _=>False) (fun _ _=>0) rfl (fun _ _ h=>h.elim) ?_
   intro _
   go_wp2_with fail
   refine(HRF.out _ _ rfl rfl HR.out).mono ?_;rintro _ w1 ⟨hg1,v1,rfl,hrd1,rfl⟩
   have HG1:=aA hg1
   have HRD1:=aA hrd1
   clear hg1 hrd1
   go_wp2_with fail
   refine(HTK.out _ _ _ rfl (by simp) (HRD1.out.alloc _)).mono ?_;rintro _ w2 ⟨hg2,rfl⟩
   exact⟨rfl,(HA.out.trans HG1.out).trans ((aC (World.grownBy.refl _ _) _).trans hg2),rfl⟩
 ·rw[h1]at HRF HG
  clear h1
  rw[HG.out,Y.bind_bad]
  go_enter Tryz.func120,Tryz.ntmps120
  go_wp2
  refine zae 0 (fun _ _=>False) (fun _ _=>0) rfl (fun _ _ h=>h.elim) ?_
  intro _
  go_wp2_with fail
  refine(HRF.out _ _ rfl rfl HR.out).mono ?_;rintro _ w1 ⟨hg1,rfl⟩
  exact⟨rfl,HA.out.trans hg1,rfl⟩
theorem zbD (L:List Int) (w:World) (base:Nat) (t:Tok) (hb:base≤w.heap.size):bN L (w.alloc (.cells #[.string (K.str t.t),.complex .f64 (Fl.fl (Pl.pos (L.take t.o)).1) (Fl.fl (Pl.pos (L.take t.o)).2)] 90)) base (.slice (some ⟨w.heap.size,0,none⟩) 1 1) [t] :=
 World.ownsRow_lit w #[.string (K.str t.t),.complex .f64 (Fl.fl (Pl.pos (L.take t.o)).1) (Fl.fl (Pl.pos (L.take t.o)).2)] 1 hb (by unfold maxLen;omega) rfl
theorem zbM {w:World} {o:Oper} {a:Act} {K:Act→World→Prop} {Q:Exit→Act→World→Prop}
  (s x:Operand) (t:TypeId) (ho:o.op=.call {callee:=.builtin .append,args:=#[s,x],argTypes:=#[t,t]}) (ht:Tryz.prog.underlying t=some (.slice 90))
  (L:List Int) (base B:Nat) (v:Value) (xs:List Tok) (hs:a.eval s=v) (hown:bN L w base v xs) (A:Option Addr) (m c:Nat) (ys:List Tok) (hx:a.eval x=.slice A m c) (hm:m=ys.length) (hr:RdR L w B A ys)
  (hlen:xs.length+ys.length≤1000000) (hbase:base≤w.heap.size)
  (hK:∀v' w',bN L w' base v' (xs++ys)→w.grownBy w' v.ownBlock→K (a.put o.dst v') w') :
  o.wp Tryz.prog a w K Q:=by
 obtain⟨i,hi,hz0,hz1,hz2⟩:=info_parts zk8
 subst hm
 rcases A with _|ad
 ·have hz:ys=[]:=by
   rcases Nat.eq_zero_or_pos ys.length with h0|h0
   ·exact List.eq_nil_of_length_eq_zero h0
   ·obtain⟨g,o',h,_⟩:=hr (by omega);cases h
  subst hz
  have hrun:=zam (P:=Tryz.prog) w base t o.type 90 i 2 ht hi v xs.length _ hown c
  unfold Oper.wp
  simp[execOp,ho,resolve,invoke,builtin,hs,hx,hrun,Result.andThen]
  exact hK v w (by simpa using hown) (World.grownBy.refl _ _)
 ·refine wp_append_own w s x t ho base 90 i _ 2 32 ht hi hz0 hz1 hz2 rfl (by decide) v xs.length (xs.flatMap (bB L)) hs hown ad ys.length c (ys.flatMap (bB L)) hx (zcZ L ys) ?_ ?_ (by unfold maxLen;omega) (by omega) hbase fun v' w' h1 h2 _=>hK v' w' ?_ h2
  ·intro j u hj
   have hjl:j<(ys.flatMap (bB L)).length:=(List.getElem?_eq_some_iff.1 hj).1
   rw[zcZ]at hjl
   obtain⟨g,cur,h,_,hh,hc⟩:=hr (by omega)
   replace h:=Option.some.inj h
   subst h
   rw[zdP,Nat.zero_add,cell_of_row w g _ _ _ _ hh]
   exact hc j u hj
  ·intro u hu
   obtain⟨z,_,hz⟩:=List.mem_flatMap.1 hu
   simp[bB]at hz;rcases hz with rfl|rfl <;> rfl
  ·unfold bN
   rw[List.length_append,List.flatMap_append];exact h1
theorem zkX (L:List Int) (w:World) (B g:Nat) (t:Tok) (hg:g=w.heap.size) (hB:B≤g):RdR L (w.alloc (.cells #[.string (K.str t.t),.complex .f64 (Fl.fl (Pl.pos (L.take t.o)).1) (Fl.fl (Pl.pos (L.take t.o)).2)] 90)) B (some ⟨g,0,none⟩) [t]:=by
 subst hg
 exact fun _=>⟨_,_,rfl,hB,heap_alloc_new w _,fun j u hu=>by simpa[bB] using hu⟩
theorem zjr (L:List Int) (B R px py:Nat) (ts:List Tok) (w:World) (hr:Rdr L B R px py w ts) :
  Calls Tryz.prog 118 #[.pointer (some ⟨R,0,none⟩)] w (zfl L B R px py w (VDcl L w.heap.size) (Y.decl ts)):=by
 have HR:=aA hr
 have hRlt:=hr.lt
 have hts:ts.length≤4000:=by obtain⟨_,_,_,_,h,_⟩:=hr;exact h
 have SF:=zez
 have SC:=fun a w m X Y=>show(store a (.complex .f64 X Y) m).run Tryz.prog w=stored Tryz.prog w a (.complex .f64 X Y) m from run_store _ w a _ m rfl
 have HTK:=aA (fun(x:World)=>zcc L B R px py ts [3,4,5,6,7] (by decide) x)
 unfold zgT at HTK
 have HD:Hid (Y.decl ts=(Y.take [3,4,5,6,7] ts).bind fun t r=>if t.k=7 then(Y.take [1] r).bind fun n r=>.ok ⟨7,[n]⟩ r else(Y.take [1,2] r).bind fun n r=>.ok ⟨t.k,n::r.takeWhile Y.isRef⟩ (r.dropWhile Y.isRef)):=aA rfl
 have HG:=aA (fun o=>aC (World.grownBy.refl w (some R)) o)
 clear hr
 rcases h1:Y.take [3,4,5,6,7] ts with⟨t,r⟩|p
 ·rw[h1]at HTK HD
  rw[Y.bind_ok]at HD
  have hrl:r.length≤4000:=by have:=congrArg List.length (Y.take_ok h1).1;simp at this;omega
  clear h1
  by_cases hk:t.k=7
  ·have hk':(t.k==7)=true:=by simpa using hk
   rw[if_pos hk]at HD
   have HK:=aA hk
   clear hk
   have HRF:=aA (fun(x:World)=>zhw L B R px py r [1] (by decide) x)
   unfold bK at HRF
   rcases h2:Y.take [1] r with⟨n,r2⟩|p
   ·rw[h2]at HRF HD
    clear h2
    go_enter Tryz.func118,Tryz.ntmps118
    go_wp2_with fail
    refine(HTK.out _ _ _ rfl (by simp) (HR.out.alloc _)).mono ?_;rintro _ w2 ⟨hg2,v2,rfl,hrd2,rfl⟩
    have hb2:=aK hg2 (heap_alloc_new w _) (by omega)
    have HRD2:=aA hrd2
    have HG2:=aA ((HG.out _).trans hg2)
    clear hg2 hrd2
    go_wp2_with fail
    refine(HRF.out _ _ _ rfl rfl HRD2.out).mono ?_;rintro _ w3 ⟨hg3,v3,rfl,hrd3,rfl⟩
    have hb3:=aK hg3 hb2 (by omega)
    have HRD3:=aA hrd3
    have HG3:=aA (HG2.out.trans hg3)
    have c0:=cell_of_row w3 _ 0 _ _ _ hb3
    have c1:=cell_of_row w3 _ 1 _ _ _ hb3
    have f0:=frozen_of_row w3 _ 0 _ _ hb3
    have f1:=frozen_of_row w3 _ 1 _ _ hb3
    have HOT:=aA (zac hb3 (by decide))
    have hsz:w.heap.size<w3.heap.size:=by have:=(Array.getElem?_eq_some_iff.1 hb3).1;exact this
    clear hg3 hrd3 hb2 hb3
    go_wp2
    rw[HD.out]
    refine bodyPost_ret (v:=.agg #[.int .i64 t.k,.slice (some ⟨w3.heap.size,0,none⟩) 1 1]) (by simp[results,Tryz.results118,go_sem,c0,c1,hsz]) rfl ⟨aC (aI (aI HG3.out _ _ _ (Nat.le_refl _)) _ _ _ (Nat.le_refl _)) _,_,rfl,((HRD3.out.far _ _ _ hRlt).far _ _ _ hRlt).alloc _,some ⟨w3.heap.size,0,none⟩,1,by rw[HK.out];rfl,zkX L _ _ _ n (by simp[World.setCell]) (by omega)⟩
   ·rw[h2]at HRF HD
    clear h2
    rw[HD.out]
    go_enter Tryz.func118,Tryz.ntmps118
    go_wp2_with fail
    refine(HTK.out _ _ _ rfl (by simp) (HR.out.alloc _)).mono ?_;rintro _ w2 ⟨hg2,v2,rfl,hrd2,rfl⟩
    have HRD2:=aA hrd2
    have HG2:=aA ((HG.out _).trans hg2)
    clear hg2 hrd2
    go_wp2_with fail
    refine(HRF.out _ _ _ rfl rfl HRD2.out).mono ?_;rintro _ w3 ⟨hg3,rfl⟩
    exact⟨rfl,HG2.out.trans hg3,rfl⟩
  ·have hk':(t.k==7)=false:=by simpa using hk
   rw[if_neg hk]at HD
   clear hk
   have HRF:=aA (fun(x:World)=>zhw L B R px py r [1,2] (by decide) x)
   unfold bK at HRF
   rcases h2:Y.take [1,2] r with⟨n,r2⟩|p
   ·rw[h2]at HRF HD
    have HL2:Hid ((r2.takeWhile Y.isRef).length≤4000):=aA (by
     have:=congrArg List.length (Y.take_ok h2).1
     have e2:=(List.takeWhile_sublist Y.isRef (l:=r2)).length_le
     simp at this;omega)
    clear h2
    have HRS:=aA (fun(x:World)=>zfz L B R px py r2 x)
    rw[HD.out]
    go_enter Tryz.func118,Tryz.ntmps118
    go_wp2_with fail
    refine(HTK.out _ _ _ rfl (by simp) (HR.out.alloc _)).mono ?_;rintro _ w2 ⟨hg2,v2,rfl,hrd2,rfl⟩
    have hb2:=aK hg2 (heap_alloc_new w _) (by omega)
    have HRD2:=aA hrd2
    have HG2:=aA ((HG.out _).trans hg2)
    clear hg2 hrd2
    go_wp2_with fail
    refine(HRF.out _ _ _ rfl rfl HRD2.out).mono ?_;rintro _ w3 ⟨hg3,v3,rfl,hrd3,rfl⟩
    have hb3:=aK hg3 hb2 (by omega)
    have HG3:=aA (HG2.out.trans hg3)
    have hsz3:w.heap.size<w3.heap.size:=(Array.getElem?_eq_some_iff.1 hb3).1
    go_upto_region 5 with fail
    obtain⟨w4,hw4⟩:∃x,x=w3.alloc (.cells #[.string (K.str n.t),.complex .f64 (Fl.fl (Pl.pos (L.take n.o)).1) (Fl.fl (Pl.pos (L.take n.o)).2)] 90):=⟨_,rfl⟩
    rw[←hw4]
    have HG4:Hid (w.grownBy w4 (some R)):=aA (by rw[hw4];exact aC HG3.out _)
    have HRD4:Hid (Rdr L B R px py w4 r2):=aA (by rw[hw4];exact hrd3.alloc _)
    have HB4:Hid (w4.heap[w3.heap.size]?=some (.cells #[.string (K.str n.t),.complex .f64 (Fl.fl (Pl.pos (L.take n.o)).1) (Fl.fl (Pl.pos (L.take n.o)).2)] 90 (0,0))):=aA (by rw[hw4];exact heap_alloc_new w3 _)
    have HB2:=aA ((Below.heap_alloc w3 (.cells #[.string (K.str n.t),.complex .f64 (Fl.fl (Pl.pos (L.take n.o)).1) (Fl.fl (Pl.pos (L.take n.o)).2)] 90) w.heap.size hsz3).trans hb3)
    rw[←hw4]at HB2
    have hsz4:w.heap.size<w4.heap.size:=by rw[hw4];simp;omega
    clear hw4 hg3 hrd3 hb2 hb3
    have CL0:=fun y:Calm.OnB w3.heap.size w4=>(show y.1.cell? ⟨w3.heap.size,0,none⟩=some (.string (K.str n.t)) by rw[cell_of_row y.1 _ 0 _ _ _ (y.2.trans HB4.out)];rfl)
    have CL1:=fun y:Calm.OnB w3.heap.size w4=>(show y.1.cell? ⟨w3.heap.size,1,none⟩=some (.complex .f64 (Fl.fl (Pl.pos (L.take n.o)).1) (Fl.fl (Pl.pos (L.take n.o)).2)) by rw[cell_of_row y.1 _ 1 _ _ _ (y.2.trans HB4.out)];rfl)
    have hd4:w4.grownBy w4.drew (some R):=aE w4 _
    have HM:=aA (fun(x:World) (h:w4.grownBy x (some R))=>h.block w3.heap.size (Array.getElem?_eq_some_iff.1 HB4.out).1 (fun e=>by injection e with e;omega))
    refine Calm.region_tree (fun x=>∃y:Calm.OnB w3.heap.size w4,x=y.1) (.two [0,1,3] 2 (.one [] 4 (.one [] 5 (.one [6] 7 (.fin [])))) 4 (.one [] 2 (.one [] 5 (.one [6] 7 (.fin []))))) (by kernel_rfl) (by kernel_rfl) (fun _ _ d _ _ h=>by cases d <;> exact h) ⟨⟨w4.drew,HM.out _ hd4⟩,rfl⟩ ?_
    simp only[Calm.wpT,Calm.wpSt,Calm.pickOps,List.getElem?_toArray,List.getElem?_cons_zero,List.getElem?_cons_succ]
    repeat (go_big_quiet_step (fail))
    refine wpQuiet_nil ?_
    clear CL0 CL1
    refine⟨?_,?_⟩
    ·intro KK hKK
     rw[if_pos (by rfl)]
     go_wp2_with fail
     obtain⟨w5,hw5⟩:∃x,x=(w4.alloc (.cells #[.string (K.str n.t),.complex .f64 (Fl.fl (Pl.pos (L.take n.o)).1) (Fl.fl (Pl.pos (L.take n.o)).2)] 90)).drew:=⟨_,rfl⟩
     rw[←hw5]
     have hg5:w4.grownBy w5 .none:=by rw[hw5];exact(aC (World.grownBy.refl _ _) _).trans (aE _ _)
     have ho5:bN L w5 w4.heap.size (.slice (some ⟨w4.heap.size,0,none⟩) 1 1) [n]:=by rw[hw5];exact zbD L w4 _ n (Nat.le_refl _)
     have hrd5:=HRD4.out.row hg5
     clear hw5
     refine hKK _ _ ⟨⟨w5,HM.out _ (hg5.row _)⟩,rfl⟩ (fun x=>∃y:Calm.OnB w3.heap.size w4,x=y.1) (fun _ h=>h) ⟨⟨w5,HM.out _ (hg5.row _)⟩,rfl⟩ ?_
     refine wpQuiet_nil ?_
     intro KK hKK
     try rw[if_pos (by rfl)]
     go_wp2_with fail
     refine(HRS.out _ hrd5).mono ?_;rintro _ w6 ⟨hg6,v6,rfl,hof,hrd6⟩
     have HG6:Hid (w4.grownBy w6 (some R)):=aA ((hg5.row _).trans hg6)
     have ho6:=ho5.grown hg6 hrd5.other
     have HRD6:=aA hrd6
     obtain⟨A6,c6,rfl,_,_,hrr6⟩:=hof.rd
     have HRR6:=aA (hrr6.less hg5.size)
     clear hg5 ho5 hrd5 hg6 hof hrd6 hrr6
     go_wp2_with fail
     refine hKK _ _ ⟨⟨w6,HM.out _ HG6.out⟩,rfl⟩ (fun x=>∃y:Calm.OnB w3.heap.size w4,x=y.1) (fun _ h=>h) ⟨⟨w6,HM.out _ HG6.out⟩,rfl⟩ ?_
     refine wpQuiet_nil ?_
     intro KK hKK
     try rw[if_pos (by rfl)]
     have HO6:=aA ho6
     clear ho6
     refine zbM (.tmp 22) (.tmp 24) _ rfl Tryz.underlying102 L w4.heap.size w4.heap.size _ [n] rfl HO6.out A6 _ c6 _ rfl rfl HRR6.out (by have:=HL2.out;simp;omega) (by have:=HG6.out.size;omega) ?_
     intro v7 w7 ho7 hg7
     have hg7':w4.grownBy w7 (some R):=aS HG6.out HO6.out hg7
     have hrd7:=HRD6.out.own HO6.out hg7 (by omega)
     have hb27:=aK hg7' HB2.out (by omega)
     obtain⟨A7,c7,rfl,_,_,hrr7⟩:=ho7.rd
     have HRR7:=aA hrr7
     have HRD7:=aA hrd7
     have HG7:=aA hg7'
     have HOT:=aA (zac hb27 (by decide))
     have c0:=cell_of_row w7 _ 0 _ _ _ hb27
     have c1:=cell_of_row w7 _ 1 _ _ _ hb27
     have f0:=frozen_of_row w7 _ 0 _ _ hb27
     have f1:=frozen_of_row w7 _ 1 _ _ hb27
     clear ho7 hg7 hrr7 hrd7 hb27
     go_wp2_with fail
     refine hKK _ _ ⟨⟨w7,HM.out _ HG7.out⟩,rfl⟩ (fun x=>∃y:Calm.OnB w3.heap.size w4,x=y.1) (fun _ h=>h) ⟨⟨w7,HM.out _ HG7.out⟩,rfl⟩ ?_
     repeat (go_big_quiet_step (fail))
     refine wpQuiet_nil ?_
     intro KK hKK
     try rw[if_pos (by rfl)]
     go_wp2_with fail
     have HME:=aA (fun u0 u1=>((Below.heap_setCell (w7.setCell ⟨w.heap.size,0,none⟩ u0) ⟨w.heap.size,1,none⟩ u1 w3.heap.size (by simp only;omega)).trans ((Below.heap_setCell w7 ⟨w.heap.size,0,none⟩ u0 w3.heap.size (by simp only;omega)).trans (HM.out _ HG7.out))))
     refine hKK _ _ ⟨⟨_,HME.out _ _⟩,rfl⟩ (fun x=>∃y:Calm.OnB w3.heap.size w4,x=y.1) (fun _ h=>h) ⟨⟨_,HME.out _ _⟩,rfl⟩ ?_
     refine wpQuiet_nil ?_
     go_wp2_with fail
     refine bodyPost_ret (v:=.agg #[.int .i64 t.k,.slice A7 ((r2.takeWhile Y.isRef).length+1) c7]) (by simp[results,Tryz.results118,go_sem,c0,c1]) rfl ⟨aI (aI (HG4.out.trans HG7.out) _ _ _ (Nat.le_refl _)) _ _ _ (Nat.le_refl _),_,rfl,(HRD7.out.far _ _ _ hRlt).far _ _ _ hRlt,A7,c7,rfl,(HRR7.out.grown (aD (aD (World.grownBy.refl _ _) _ _) _ _) HOT.out).less (by omega)⟩
    ·intro KK hKK
     rw[if_pos (by rfl)]
     go_wp2_with fail
     refine(HRS.out _ HRD4.out.drew).mono ?_;rintro _ w5 ⟨hg5',v5,rfl,hof,hrd5⟩
     have hg5:w4.grownBy w5 (some R):=hd4.trans hg5'
     obtain⟨A6,c6,rfl,_,_,hrr5⟩:=hof.rd
     go_wp2_with fail
     refine hKK _ _ ⟨⟨w5,HM.out _ hg5⟩,rfl⟩ (fun x=>∃y:Calm.OnB w3.heap.size w4,x=y.1) (fun _ h=>h) ⟨⟨w5,HM.out _ hg5⟩,rfl⟩ ?_
     refine wpQuiet_nil ?_
     intro KK hKK
     try rw[if_pos (by rfl)]
     go_wp2_with fail
     obtain⟨w6,hw6⟩:∃x,x=w5.alloc (.cells #[.string (K.str n.t),.complex .f64 (Fl.fl (Pl.pos (L.take n.o)).1) (Fl.fl (Pl.pos (L.take n.o)).2)] 90):=⟨_,rfl⟩
     rw[←hw6]
     have HG6:Hid (w4.grownBy w6 (some R)):=aA (by rw[hw6];exact aC hg5 _)
     have ho6:bN L w6 w4.heap.size (.slice (some ⟨w5.heap.size,0,none⟩) 1 1) [n]:=by rw[hw6];exact zbD L w5 _ n hg5.size
     have HRD6:=aA (show Rdr L B R px py w6 _ from by rw[hw6];exact hrd5.alloc _)
     have HRR6:Hid (RdR L w6 w4.heap.size A6 (r2.takeWhile Y.isRef)):=aA (by rw[hw6];exact(hrr5.less (Nat.le_refl _)).grown (aC (World.grownBy.refl _ _) _) (bA.none _))
     clear hw6 hg5 hg5' hof hrr5 hrd5
     refine hKK _ _ ⟨⟨w6,HM.out _ HG6.out⟩,rfl⟩ (fun x=>∃y:Calm.OnB w3.heap.size w4,x=y.1) (fun _ h=>h) ⟨⟨w6,HM.out _ HG6.out⟩,rfl⟩ ?_
     refine wpQuiet_nil ?_
     intro KK hKK
     try rw[if_pos (by rfl)]
     have HO6:=aA ho6
     clear ho6
     refine zbM (.tmp 22) (.tmp 24) _ rfl Tryz.underlying102 L w4.heap.size w4.heap.size _ [n] rfl HO6.out A6 _ c6 _ rfl rfl HRR6.out (by have:=HL2.out;simp;omega) (by have:=HG6.out.size;omega) ?_
     intro v7 w7 ho7 hg7
     have hg7':w4.grownBy w7 (some R):=aS HG6.out HO6.out hg7
     have hrd7:=HRD6.out.own HO6.out hg7 (by omega)
     have hb27:=aK hg7' HB2.out (by omega)
     obtain⟨A7,c7,rfl,_,_,hrr7⟩:=ho7.rd
     have HRR7:=aA hrr7
     have HRD7:=aA hrd7
     have HG7:=aA hg7'
     have HOT:=aA (zac hb27 (by decide))
     have c0:=cell_of_row w7 _ 0 _ _ _ hb27
     have c1:=cell_of_row w7 _ 1 _ _ _ hb27
     have f0:=frozen_of_row w7 _ 0 _ _ hb27
     have f1:=frozen_of_row w7 _ 1 _ _ hb27
     clear ho7 hg7 hrr7 hrd7 hb27
     go_wp2_with fail
     refine hKK _ _ ⟨⟨w7,HM.out _ HG7.out⟩,rfl⟩ (fun x=>∃y:Calm.OnB w3.heap.size w4,x=y.1) (fun _ h=>h) ⟨⟨w7,HM.out _ HG7.out⟩,rfl⟩ ?_
     repeat (go_big_quiet_step (fail))
     refine wpQuiet_nil ?_
     intro KK hKK
     try rw[if_pos (by rfl)]
     go_wp2_with fail
     have HME:=aA (fun u0 u1=>((Below.heap_setCell (w7.setCell ⟨w.heap.size,0,none⟩ u0) ⟨w.heap.size,1,none⟩ u1 w3.heap.size (by simp only;omega)).trans ((Below.heap_setCell w7 ⟨w.heap.size,0,none⟩ u0 w3.heap.size (by simp only;omega)).trans (HM.out _ HG7.out))))
     refine hKK _ _ ⟨⟨_,HME.out _ _⟩,rfl⟩ (fun x=>∃y:Calm.OnB w3.heap.size w4,x=y.1) (fun _ h=>h) ⟨⟨_,HME.out _ _⟩,rfl⟩ ?_
     refine wpQuiet_nil ?_
     go_wp2_with fail
     refine bodyPost_ret (v:=.agg #[.int .i64 t.k,.slice A7 ((r2.takeWhile Y.isRef).length+1) c7]) (by simp[results,Tryz.results118,go_sem,c0,c1]) rfl ⟨aI (aI (HG4.out.trans HG7.out) _ _ _ (Nat.le_refl _)) _ _ _ (Nat.le_refl _),_,rfl,(HRD7.out.far _ _ _ hRlt).far _ _ _ hRlt,A7,c7,rfl,(HRR7.out.grown (aD (aD (World.grownBy.refl _ _) _ _) _ _) HOT.out).less (by omega)⟩
   ·rw[h2]at HRF HD
    clear h2
    rw[HD.out]
    go_enter Tryz.func118,Tryz.ntmps118
    go_wp2_with fail
    refine(HTK.out _ _ _ rfl (by simp) (HR.out.alloc _)).mono ?_;rintro _ w2 ⟨hg2,v2,rfl,hrd2,rfl⟩
    have HRD2:=aA hrd2
    have HG2:=aA ((HG.out _).trans hg2)
    clear hg2 hrd2
    go_wp2_with fail
    refine(HRF.out _ _ _ rfl rfl HRD2.out).mono ?_;rintro _ w3 ⟨hg3,rfl⟩
    exact⟨rfl,HG2.out.trans hg3,rfl⟩
 ·rw[h1]at HTK HD
  clear h1
  rw[HD.out]
  go_enter Tryz.func118,Tryz.ntmps118
  go_wp2_with fail
  refine(HTK.out _ _ _ rfl (by simp) (HR.out.alloc _)).mono ?_;rintro _ w2 ⟨hg2,rfl⟩
  exact⟨rfl,(HG.out _).trans hg2,rfl⟩
theorem zdS (L:List Int) (B R px py:Nat) (ts:List Tok) (w:World) (hr:Rdr L B R px py w ts) :
  Calls Tryz.prog 121 #[.pointer (some ⟨R,0,none⟩)] w (zfl L B R px py w (fun _ _ _=>True) (Y.tail ts)):=by
 have HR:=aA hr
 have HIS:=aA (zku L B R px py ts [9] (by decide) w)
 have HT2:=aA (fun(x:World) (r:List Tok) (h:Rdr L B R px py x r)=>zdn L B R px py r [] none 0 0 x h (RdI.nil _ _ _) (Nat.zero_le _) (by decide))
 have HGW:=aA (World.grownBy.refl w (some R))
 clear hr
 rcases hb:Y.is [9] ts with _|_
 ·rw[hb]at HIS
  have HD:Hid (Y.tail ts=Y.tail2 ts):=aA (by unfold Y.tail;rw[hb];rfl)
  clear hb
  rcases ts with _|⟨t,r⟩
  ·rw[HD.out]
   go_enter Tryz.func121,Tryz.ntmps121
   go_wp2_with fail
   refine(HIS.out _ _ rfl rfl HR.out).mono ?_;rintro _ w2 ⟨rfl,hg2⟩
   have HRD:=aA (HR.out.row hg2)
   obtain⟨A,c,h0,_,_,_,_,_⟩:=HRD.out.cell0
   go_wp2
   exact⟨rfl,.tuple #[],by simp[results,Tryz.results121],hg2.row _,_,rfl,HRD.out,trivial⟩
  ·rw[HD.out]
   have HT2b:=aA (fun(x:World) (h:Rdr L B R px py x (t::r))=>HT2.out x (t::r) h)
   rw[show Y.take [] (t::r)=.bad (some t) from rfl]at HT2b
   have hl:0<((t::r).length:Int):=by simp
   rw[show Y.tail2 (t::r)=.bad (some t) from rfl]
   go_enter Tryz.func121,Tryz.ntmps121
   go_wp2_with fail
   refine(HIS.out _ _ rfl rfl HR.out).mono ?_;rintro _ w2 ⟨rfl,hg2⟩
   have HRD:=aA (HR.out.row hg2)
   have HG2:=aA hg2
   obtain⟨A,c,h0,_,_,_,_,_⟩:=HRD.out.cell0
   clear hg2
   generalize (t::r).length=n at *
   go_wp2_with fail
   refine(HT2b.out _ HRD.out).mono ?_;rintro _ w3 ⟨hg3,rfl⟩
   exact⟨rfl,(HG2.out.row _).trans hg3,rfl⟩
 ·rw[hb]at HIS
  obtain⟨t9,r9,rfl,htk,_⟩:=Y.is_true hb
  have HD:Hid (Y.tail (t9::r9)=Y.tail2 r9):=aA (by unfold Y.tail;rw[hb,htk];rfl)
  have HTK:=aA (fun(x:World)=>zcc L B R px py (t9::r9) [9] (by decide) x)
  rw[htk]at HTK
  unfold zgT at HTK
  rw[HD.out]
  clear hb htk
  rcases r9 with _|⟨t,r⟩
  ·rw[show Y.tail2 []=.ok () [] from rfl]
   go_enter Tryz.func121,Tryz.ntmps121
   go_wp2_with fail
   refine(HIS.out _ _ rfl rfl HR.out).mono ?_;rintro _ w2 ⟨rfl,hg2⟩
   have HRD:=aA (HR.out.row hg2)
   go_wp2_with fail
   refine(HTK.out _ _ _ rfl rfl HRD.out).mono ?_;rintro _ w3 ⟨hg3,v3,rfl,hrd3,rfl⟩
   have HG3:=aA ((hg2.row _).trans hg3)
   have HRD3:=aA hrd3
   obtain⟨A,c,h0,_,_,_,_,_⟩:=hrd3.cell0
   clear hg2 hg3 hrd3
   go_wp2
   exact⟨rfl,.tuple #[],by simp[results,Tryz.results121],HG3.out,_,rfl,HRD3.out,trivial⟩
  ·rw[show Y.tail2 (t::r)=.bad (some t) from rfl]
   have HT2b:=aA (fun(x:World) (h:Rdr L B R px py x (t::r))=>HT2.out x (t::r) h)
   rw[show Y.take [] (t::r)=.bad (some t) from rfl]at HT2b
   have hl:0<((t::r).length:Int):=by simp
   go_enter Tryz.func121,Tryz.ntmps121
   go_wp2_with fail
   refine(HIS.out _ _ rfl rfl HR.out).mono ?_;rintro _ w2 ⟨rfl,hg2⟩
   have HRD:=aA (HR.out.row hg2)
   go_wp2_with fail
   refine(HTK.out _ _ _ rfl rfl HRD.out).mono ?_;rintro _ w3 ⟨hg3,v3,rfl,hrd3,rfl⟩
   have HG3:=aA ((hg2.row _).trans hg3)
   have HRD3:=aA hrd3
   obtain⟨A,c,h0,_,_,_,_,_⟩:=hrd3.cell0
   clear hg2 hg3 hrd3
   generalize (t::r).length=n at *
   go_wp2_with fail
   refine(HT2b.out _ HRD3.out).mono ?_;rintro _ w4 ⟨hg4,rfl⟩
   exact⟨rfl,HG3.out.trans hg4,rfl⟩
def K.Tx (l:List Int):Prop:=K.Bytes l∧l.length≤9223372036854775807
namespace Gm
structure Tm where
 nm:List Int
 lv:Int
 wy:Int
structure Rl where
 l:Int
 r:List Int
 p:Int
structure Gr where
 ts:List Tm
 ns:List (List Int)
 rs:List Rl
 st:Int
def In (z:Int):Prop:=-9223372036854775808≤z∧z≤9223372036854775807
structure Fit (G:Gr):Prop where
 t:∀x∈G.ts,K.Tx x.nm∧In x.lv∧In x.wy
 n:∀x∈G.ns,K.Tx x
 r:∀x∈G.rs,In x.l∧In x.p∧∀z∈x.r,In z
 s:In G.st
end Gm
def zgS (w:World) (B:Nat) (A:Option Addr) (ts:List Gm.Tm):Prop :=
 ts.length≠0→∃g o,A=some ⟨g,o,none⟩∧g<B∧∀i (h:i<ts.length),w.cell? ⟨g,o+i*3,none⟩=some (.string (K.str ts[i].nm))∧w.cell? ⟨g,o+i*3+1,none⟩=some (.int .i64 ts[i].lv)∧w.cell? ⟨g,o+i*3+2,none⟩=some (.int .i64 ts[i].wy)
def RdN (w:World) (B:Nat) (A:Option Addr) (ns:List (List Int)):Prop :=
 ns.length≠0→∃g o,A=some ⟨g,o,none⟩∧g<B∧∀i (h:i<ns.length),w.cell? ⟨g,o+i,none⟩=some (.string (K.str ns[i]))
def zjE (w:World) (B:Nat) (A:Option Addr) (rs:List Gm.Rl):Prop :=
 rs.length≠0→∃g o,A=some ⟨g,o,none⟩∧g<B∧∀i (h:i<rs.length),w.cell? ⟨g,o+i*3,none⟩=some (.int .i64 rs[i].l)∧(∃A' c',w.cell? ⟨g,o+i*3+1,none⟩=some (.slice A' rs[i].r.length c')∧rs[i].r.length≤c'∧c'≤9223372036854775807∧RdI w B A' rs[i].r)∧w.cell? ⟨g,o+i*3+2,none⟩=some (.int .i64 rs[i].p)
def bC (w:World) (B:Nat) (v:Value) (G:Gm.Gr):Prop :=
 ∃AT cT AN cN AR cR,v=.agg #[.slice AT G.ts.length cT,.slice AN G.ns.length cN,.slice AR G.rs.length cR,.int .i64 G.st]∧(G.ts.length≤cT∧cT≤9223372036854775807)∧(G.ns.length≤cN∧cN≤9223372036854775807)∧(G.rs.length≤cR∧cR≤9223372036854775807)∧zgS w B AT G.ts∧RdN w B AN G.ns∧zjE w B AR G.rs
theorem zgS.keep {w w':World} {B:Nat} {A:Option Addr} {ts:List Gm.Tm} (h:zgS w B A ts) (hk:∀g o,g<B→w'.cell? ⟨g,o,none⟩=w.cell? ⟨g,o,none⟩):zgS w' B A ts:=fun hn=>by
 obtain⟨g,o,e,hg,hc⟩:=h hn
 exact⟨g,o,e,hg,fun i hi=>⟨(hk _ _ hg).trans (hc i hi).1,(hk _ _ hg).trans (hc i hi).2.1,(hk _ _ hg).trans (hc i hi).2.2⟩⟩
theorem RdN.keep {w w':World} {B:Nat} {A:Option Addr} {ns:List (List Int)} (h:RdN w B A ns) (hk:∀g o,g<B→w'.cell? ⟨g,o,none⟩=w.cell? ⟨g,o,none⟩):RdN w' B A ns:=fun hn=>by
 obtain⟨g,o,e,hg,hc⟩:=h hn
 exact⟨g,o,e,hg,fun i hi=>(hk _ _ hg).trans (hc i hi)⟩
theorem zjE.keep {w w':World} {B:Nat} {A:Option Addr} {rs:List Gm.Rl} (h:zjE w B A rs) (hk:∀g o,g<B→w'.cell? ⟨g,o,none⟩=w.cell? ⟨g,o,none⟩):zjE w' B A rs:=fun hn=>by
 obtain⟨g,o,e,hg,hc⟩:=h hn
 refine⟨g,o,e,hg,fun i hi=>?_⟩
 obtain⟨h1,⟨A',c',h2,h3,h4,h5⟩,h6⟩:=hc i hi
 exact⟨(hk _ _ hg).trans h1,⟨A',c',(hk _ _ hg).trans h2,h3,h4,h5.keep hk⟩,(hk _ _ hg).trans h6⟩
theorem bC.keep {w w':World} {B:Nat} {v:Value} {G:Gm.Gr} (h:bC w B v G) (hk:∀g o,g<B→w'.cell? ⟨g,o,none⟩=w.cell? ⟨g,o,none⟩):bC w' B v G:=by
 obtain⟨AT,cT,AN,cN,AR,cR,e,h1,h2,h3,h4,h5,h6⟩:=h
 exact⟨AT,cT,AN,cN,AR,cR,e,h1,h2,h3,h4.keep hk,h5.keep hk,h6.keep hk⟩
theorem bC.below {w w':World} {B B':Nat} {v:Value} {G:Gm.Gr} (h:bC w B v G) (hb:Below B' w w') (hB:B≤B'):bC w' B v G :=
 h.keep fun g o hg=>hb.cell (p:=⟨g,o,none⟩) (Nat.lt_of_lt_of_le hg hB)
theorem zgS.more {w:World} {B B':Nat} {A:Option Addr} {ts:List Gm.Tm} (h:zgS w B A ts) (hB:B≤B'):zgS w B' A ts:=fun hn=>by
 obtain⟨g,o,e,hg,hc⟩:=h hn
 exact⟨g,o,e,by omega,hc⟩
theorem RdN.more {w:World} {B B':Nat} {A:Option Addr} {ss:List (List Int)} (h:RdN w B A ss) (hB:B≤B'):RdN w B' A ss:=fun hn=>by
 obtain⟨g,o,e,hg,hc⟩:=h hn
 exact⟨g,o,e,by omega,hc⟩
theorem zjE.more {w:World} {B B':Nat} {A:Option Addr} {rs:List Gm.Rl} (h:zjE w B A rs) (hB:B≤B'):zjE w B' A rs:=fun hn=>by
 obtain⟨g,o,e,hg,hc⟩:=h hn
 refine⟨g,o,e,by omega,fun i hi=>?_⟩
 obtain⟨h1,⟨A',c',h2,h3,h4,h5⟩,h6⟩:=hc i hi
 exact⟨h1,⟨A',c',h2,h3,h4,h5.more hB⟩,h6⟩
theorem bC.more {w:World} {B B':Nat} {v:Value} {G:Gm.Gr} (h:bC w B v G) (hB:B≤B'):bC w B' v G:=by
 obtain⟨AT,cT,AN,cN,AR,cR,e,h1,h2,h3,h4,h5,h6⟩:=h
 exact⟨AT,cT,AN,cN,AR,cR,e,h1,h2,h3,h4.more hB,h5.more hB,h6.more hB⟩
theorem bC.up {w w':World} {v:Value} {G:Gm.Gr} (h:bC w w.heap.size v G) (hb:Below w.heap.size w w'):bC w' w'.heap.size v G:=(h.below hb (Nat.le_refl _)).more hb.size
theorem bC.drewN {w:World} {B:Nat} {v:Value} {G:Gm.Gr} (h:bC w B v G) (n:Nat):bC (w.drewN n) B v G:=h
theorem K.txt (s:ByteArray) (hs:s.size≤maxLen):∃l,K.Tx l∧s=K.str l:=by
 refine⟨s.data.toList.map fun b=>(b.toNat:Int),⟨?_,by rw[List.length_map];unfold maxLen at hs;exact hs⟩,?_⟩
 ·intro z hz
  obtain⟨b,_,rfl⟩:=List.mem_map.1 hz
  have:=b.toNat_lt
  omega
 ·unfold K.str K.bytes
  rw[List.map_map]
  have:((fun z:Int=>UInt8.ofNat z.toNat)∘fun b:UInt8=>(b.toNat:Int))=id:=by
   funext b;simp
  rw[this];simp
theorem zdD {α:Type} (n:Nat) (p:Nat→α→Prop) (h:∀i,i<n→∃a,p i a):∃l:List α,l.length=n∧∀i (hi:i<l.length),p i l[i]:=by
 induction n with
 | zero=>exact⟨[],rfl,fun i hi=>by simp at hi⟩
 | succ n ih =>
  obtain⟨l,hl,hp⟩:=ih (fun i hi=>h i (by omega))
  obtain⟨a,ha⟩:=h n (by omega)
  refine⟨l++[a],by simp[hl],fun i hi=>?_⟩
  rcases Nat.lt_or_ge i l.length with h1|h1
  ·rw[List.getElem_append_left h1];exact hp i h1
  ·have:i=l.length:=by simp at hi;omega
   subst this
   simp only[List.getElem_concat_length]
   rw[hl]
   exact ha
end Go.Proofs.YtkfelkpilaipnaaGreatDoor
namespace Go.Proofs.YtkfelkpilaipnaaGreatDoor
set_option maxRecDepth 100000
set_option maxHeartbeats 40000000
namespace Gm
def find:List (List Int)→List Int→Int
 | [],_=>-1
 | x::r,s=>if x=s then 0 else if find r s<0 then -1 else find r s+1
theorem find_ge (l:List (List Int)) (s:List Int):-1≤find l s:=by
 induction l with
 | nil=>unfold find;omega
 | cons x r ih=>unfold find;split;omega;split <;> omega
theorem find_lt (l:List (List Int)) (s:List Int):find l s<l.length:=by
 induction l with
 | nil=>unfold find;simp
 | cons x r ih=>unfold find;simp only[List.length_cons];split;omega;split <;> omega
theorem find_none {l:List (List Int)} {s:List Int}:find l s<0↔s ∉ l:=by
 induction l with
 | nil=>unfold find;simp
 | cons x r ih =>
  unfold find
  by_cases hx:x=s
  ·rw[if_pos hx];simp[hx]
  ·rw[if_neg hx]
   by_cases hr:find r s<0
   ·rw[if_pos hr]
    have:=ih.1 hr
    simp only[List.mem_cons,not_or]
    exact⟨fun _=>⟨fun e=>hx e.symm,this⟩,fun _=>by omega⟩
   ·rw[if_neg hr]
    have:s∈r:=Classical.byContradiction fun q=>hr (ih.2 q)
    constructor
    ·intro h;omega
    ·intro h;exact absurd (List.mem_cons_of_mem _ this) h
theorem find_some {l:List (List Int)} {s:List Int} (h:0≤find l s):∃i:Nat,find l s=(i:Int)∧∃hi:i<l.length,l[i]=s:=by
 induction l with
 | nil=>unfold find at h;omega
 | cons x r ih =>
  unfold find at h ⊢
  by_cases hx:x=s
  ·rw[if_pos hx];exact⟨0,rfl,by simp,hx⟩
  ·rw[if_neg hx]at h ⊢
   by_cases hr:find r s<0
   ·rw[if_pos hr]at h;omega
   ·rw[if_neg hr]
    obtain⟨i,h1,h2,h3⟩:=ih (by omega)
    exact⟨i+1,by rw[h1];rfl,by simp;omega,by simpa using h3⟩
theorem find_first {l:List (List Int)} {s:List Int} (i:Nat) (hi:i<l.length) (hs:l[i]=s) (hb:∀k (hk:k<i),l[k]'(by omega)≠s):find l s=(i:Int):=by
 induction l generalizing i with
 | nil=>simp at hi
 | cons x r ih =>
  unfold find
  cases i with
  | zero=>rw[if_pos (by simpa using hs)];rfl
  | succ i =>
   rw[if_neg (by simpa using hb 0 (by omega))]
   have:=ih i (by simpa using hi) (by simpa using hs) (fun k hk=>by simpa using hb (k+1) (by omega))
   rw[this,if_neg (by omega)]
   rfl
theorem find_not {l:List (List Int)} {s:List Int} (hb:∀k (hk:k<l.length),l[k]≠s):find l s = -1:=by
 have h1:find l s<0:=find_none.2 fun hm=>by
  obtain⟨k,hk,e⟩:=List.getElem_of_mem hm
  exact hb k hk e
 have:=find_ge l s
 omega
theorem find_app {l m:List (List Int)} {s:List Int} (h:0≤find l s):find (l++m) s=find l s:=by
 induction l with
 | nil=>unfold find at h;omega
 | cons x r ih =>
  rw[List.cons_append,find,find]at *
  by_cases hx:x=s
  ·rw[if_pos hx,if_pos hx]
  ·rw[if_neg hx]at h ⊢
   rw[if_neg hx]
   by_cases hr:find r s<0
   ·rw[if_pos hr]at h;omega
   ·rw[ih (by omega)]
theorem find_snoc {l:List (List Int)} {s t:List Int} (h:find l s<0):find (l++[t]) s=if t=s then(l.length:Int) else -1:=by
 induction l with
 | nil=>simp[find]
 | cons x r ih =>
  rw[List.cons_append,find]
  rw[find]at h
  by_cases hx:x=s
  ·rw[if_pos hx]at h;omega
  ·rw[if_neg hx]at h ⊢
   by_cases hr:find r s<0
   ·rw[ih hr]
    by_cases ht:t=s
    ·simp only[if_pos ht,List.length_cons];rw[if_neg (by omega)];omega
    ·simp only[if_neg ht];rfl
   ·rw[if_neg hr]at h;omega
def names (ts:List Tm):List (List Int):=ts.map Tm.nm
def term (G:Gr) (s:List Int):Int:=find (names G.ts) s
def non (G:Gr) (s:List Int):Int:=find G.ns s
def has (G:Gr) (z:Int):Bool:=if 0≤z then decide (z<G.ts.length) else decide (-1-z<G.ns.length)
def name (G:Gr) (z:Int):List Int:=if has G z then(if 0≤z then(names G.ts).getD z.toNat [] else G.ns.getD (-1-z).toNat []) else []
def zlC (G:Gr) (s:List Int):Int×Bool:=if 0≤term G s then(term G s,true) else if 0≤non G s then(-1-non G s,true) else(0,false)
def named (s:List Int):Bool:=T.isName s||T.isLit s
def lev (n:Int):List Tm→Int→Bool
 | [],way=>way != 0
 | t::r,way=>if t.lv≠n then lev n r way else if way≠0∧way≠t.wy then false else lev n r t.wy
def term1 (ts:List Tm) (i:Nat) (t:Tm):Bool:=named t.nm&&(find (names ts) t.nm==(i:Int))&&decide (0≤t.lv)&&decide (t.lv≤24)&&decide (0≤t.wy)&&decide (t.wy≤3)&&((t.lv==0)==(t.wy==0))&&decide (∀n,n<t.lv.toNat→lev ((n+1:Nat):Int) ts 0=true)
def terms (ts:List Tm):Bool:=decide (ts.length≤24)&&decide (∀i (h:i<ts.length),term1 ts i ts[i]=true)
def non1 (G:Gr) (i:Nat) (s:List Int):Bool:=T.isName s&&(non G s==(i:Int))&&decide (term G s<0)
def nons (G:Gr):Bool:=decide (1≤G.ns.length)&&decide (G.ns.length≤16)&&decide (∀i (h:i<G.ns.length),non1 G i G.ns[i]=true)
def rule (G:Gr) (r:Rl):Bool:=decide (r.r.length≤6)&&decide (-1≤r.p)&&decide (r.p<G.ts.length)&&r.r.all fun z=>has G z && !(decide (0≤z)&&r.p == -1)
def rules (G:Gr):List Rl→Int→Bool
 | [],top=>top==G.ns.length-1
 | r::rs,top=>if r.l<0∨top+1<r.l∨rule G r=false then false else rules G rs (if top<r.l then r.l else top)
def right (G:Gr):Bool:=terms G.ts&&nons G&&decide (1≤G.rs.length)&&decide (G.rs.length≤40)&&decide (0≤G.st)&&decide (G.st<G.ns.length)&&rules G G.rs (-1)
def great (G:Gr):Bool:=decide (40<G.ts.length)||decide (40<G.ns.length)||decide (60<G.rs.length)||G.rs.any fun r=>decide (20<r.r.length)
end Gm
end Go.Proofs.YtkfelkpilaipnaaGreatDoor
namespace Go.Proofs.YtkfelkpilaipnaaGreatDoor
set_option maxRecDepth 100000
set_option maxHeartbeats 40000000
open Go.RowKit
theorem zbF (z:Int) (hz:-9223372036854775808≤z) (hz':z≤9223372036854775807) (w:World) :
  Calls Tryz.prog 90 #[.int .i64 z] w fun e w'=>e=.returned (.int .i64 (-1-z))∧w'=w:=by
 have hs:IntKind.i64.wrap (-1-z) = -1-z:=IntWalk.i64_in _ (by omega)
 clear hz hz'
 go_enter Tryz.func90,Tryz.ntmps90
 go_wp2
 go_ret
 exact⟨rfl,rfl⟩
theorem zag (z:Int) (w:World) :
  Calls Tryz.prog 89 #[.int .i64 z] w fun e w'=>e=.returned (.bool (decide (0≤z)))∧w'=w:=by
 go_enter Tryz.func89,Tryz.ntmps89
 go_wp2
 go_ret
 exact⟨rfl,rfl⟩
theorem zfa (v:Value) (G:Gm.Gr) (B:Nat) (z:Int) (hz:Gm.In z) (w:World) (hg:bC w B v G) :
  Calls Tryz.prog 105 #[v,.int .i64 z] w fun e w'=>e=.returned (.bool (Gm.has G z))∧Below w.heap.size w w':=by
 obtain⟨AT,cT,AN,cN,AR,cR,rfl,_⟩:=hg
 have HB:=aA (fun o=>(Below.refl w.heap.size w).alloc (Nat.le_refl _) o)
 unfold Gm.In at hz
 unfold Gm.has
 by_cases h0:0≤z
 ·rw[if_pos h0]
  clear hz
  go_enter Tryz.func105,Tryz.ntmps105
  go_wp2
  go_ret
  exact⟨rfl,HB.out _⟩
 ·rw[if_neg h0]
  have HN:=aA (fun w=>zbF z (by omega) (by omega) w)
  have h0':decide (0≤z)=false:=decide_eq_false h0
  clear hz
  go_enter Tryz.func105,Tryz.ntmps105
  go_wp2_with fail
  go_quiet ((go_at_call 90;exact Calls.quiet_of_same (HN.out _)))
  go_wp2
  go_ret
  exact⟨rfl,aB (HB.out _) _⟩
theorem zea (v:Value) (G:Gm.Gr) (B:Nat) (z:Int) (hz:Gm.In z) (w:World) (hg:bC w B v G) :
  Calls Tryz.prog 53 #[v,.int .i64 z] w fun e w'=>e=.returned (.bool (Gm.has G z))∧Below w.heap.size w w':=by
 obtain⟨AT,cT,AN,cN,AR,cR,rfl,_⟩:=hg
 have HB:=aA (fun o=>(Below.refl w.heap.size w).alloc (Nat.le_refl _) o)
 unfold Gm.In at hz
 unfold Gm.has
 have hs:¬0≤z→IntKind.i64.wrap (-1-z) = -1-z:=fun h=>IntWalk.i64_in _ (by omega)
 by_cases h0:0≤z
 ·rw[if_pos h0]
  clear hz hs
  go_enter Tryz.func53,Tryz.ntmps53
  go_wp2
  go_ret
  exact⟨rfl,HB.out _⟩
 ·rw[if_neg h0]
  have hs:=hs h0
  clear hz
  go_enter Tryz.func53,Tryz.ntmps53
  go_wp2
  go_ret
  exact⟨rfl,HB.out _⟩
def fnd (l:List (List Int)) (s:List Int) (k:Nat):Prop:=∀i (h:i<l.length),i<k→l[i]≠s
theorem fnd.zero (l:List (List Int)) (s:List Int):fnd l s 0:=fun _ _ h=>by omega
theorem fnd.next {l:List (List Int)} {s:List Int} {k:Nat} (h:fnd l s k) (hk:k<l.length) (hn:l[k]≠s):fnd l s (k+1):=fun i hi hik=>by
 rcases Nat.lt_or_ge i k with h1|h1
 ·exact h i hi h1
 ·obtain rfl:i=k:=by omega
  exact hn
theorem fnd.here {l:List (List Int)} {s:List Int} {k:Nat} (h:fnd l s k) (hk:k<l.length) (hn:l[k]=s):Gm.find l s=(k:Int):=Gm.find_first k hk hn fun i hi=>h i (by omega) hi
theorem fnd.none {l:List (List Int)} {s:List Int} {k:Nat} (h:fnd l s k) (hk:l.length≤k):Gm.find l s = -1:=Gm.find_not fun i hi=>h i hi (by omega)
theorem K.eqB {l m:List Int} (hl:K.Tx l) (hm:K.Tx m):((K.str l).toList==(K.str m).toList)=decide (l=m):=by
 rw[Bool.eq_iff_iff]
 simp only[beq_iff_eq,decide_eq_true_eq]
 constructor
 ·intro h
  rw[ByteArray.toList_eq,ByteArray.toList_eq]at h
  exact K.bytes_inj hl.1 hm.1 (by simpa[K.str] using h)
 ·rintro rfl;rfl
theorem zbq (v:Value) (G:Gm.Gr) (s:List Int) (B:Nat) (w:World) (hg:bC w B v G) (hf:Gm.Fit G) (hs:K.Tx s) (hB:B≤w.heap.size) :
  Calls Tryz.prog 49 #[v,.string (K.str s)] w fun e w'=>e=.returned (.int .i64 (Gm.term G s))∧Below w.heap.size w w':=by
 obtain⟨AT,cT,AN,cN,AR,cR,rfl,⟨hl,hm⟩,_,_,ht,_,_⟩:=hg
 have HB:=aA (fun o=>(Below.refl w.heap.size w).alloc (Nat.le_refl _) o)
 have HT:=aA ht
 have HF:=aA hf.t
 have HL:Hid ((Gm.names G.ts).length=G.ts.length):=aA (by simp[Gm.names])
 have hlen:(G.ts.length:Int)≤9223372036854775807:=by omega
 clear ht hf
 go_enter Tryz.func49,Tryz.ntmps49
 go_wp2
 go_loop [5] (fun vi=>∃(k:Nat),k≤G.ts.length∧vi=.int .i64 k∧fnd (Gm.names G.ts) s k) (fun vi=>G.ts.length-(intOf vi).toNat)
 case atStart=>exact⟨0,Nat.zero_le _,rfl,fnd.zero _ _⟩
 case round =>
  obtain⟨k,hk,rfl,hn⟩:=hrel
  have HN:=aA hn
  clear hn
  by_cases hlt:k<G.ts.length
  ·obtain⟨g,o,rfl,hgb,hc⟩:=HT.out (by omega)
   have k0:=(hc k hlt).1
   have hgs:g<w.heap.size:=by omega
   have hq:=(HF.out _ (List.getElem_mem hlt)).1
   have hnm:(Gm.names G.ts)[k]'(by rw[HL.out];exact hlt)=G.ts[k].nm:=by simp[Gm.names]
   have he:=K.eqB hq hs
   have HQ:=aA hnm
   clear hc hq hnm
   generalize G.ts[k].nm=x at *
   by_cases hx:x=s
   ·have HR:=aA (HN.out.here (by rw[HL.out];exact hlt) (HQ.out.trans hx))
    rw[decide_eq_true hx]at he
    clear hx
    go_wp2
    go_ret
    exact⟨zah HR.out.symm,HB.out _⟩
   ·have HR:=aA (HN.out.next (by rw[HL.out];exact hlt) (fun e=>hx (HQ.out.symm.trans e)))
    rw[decide_eq_false hx]at he
    clear hx
    go_wp2
    go_round
    case rel=>exact⟨k+1,by omega,by go_num,HR.out⟩
    case measure=>simp[intOf];omega
  ·obtain rfl:k=G.ts.length:=by omega
   have HR:=aA (HN.out.none (by rw[HL.out];omega))
   go_wp2
   go_ret
   exact⟨zah HR.out.symm,HB.out _⟩
theorem zfy (v:Value) (G:Gm.Gr) (s:List Int) (B:Nat) (w:World) (hg:bC w B v G) (hf:Gm.Fit G) (hs:K.Tx s) (hB:B≤w.heap.size) :
  Calls Tryz.prog 52 #[v,.string (K.str s)] w fun e w'=>e=.returned (.int .i64 (Gm.non G s))∧Below w.heap.size w w':=by
 obtain⟨AT,cT,AN,cN,AR,cR,rfl,_,⟨hl,hm⟩,_,_,ht,_⟩:=hg
 have HB:=aA (fun o=>(Below.refl w.heap.size w).alloc (Nat.le_refl _) o)
 have HT:=aA ht
 have HF:=aA hf.n
 have hlen:(G.ns.length:Int)≤9223372036854775807:=by omega
 clear ht hf
 go_enter Tryz.func52,Tryz.ntmps52
 go_wp2
 go_loop [5] (fun vi=>∃(k:Nat),k≤G.ns.length∧vi=.int .i64 k∧fnd G.ns s k) (fun vi=>G.ns.length-(intOf vi).toNat)
 case atStart=>exact⟨0,Nat.zero_le _,rfl,fnd.zero _ _⟩
 case round =>
  obtain⟨k,hk,rfl,hn⟩:=hrel
  have HN:=aA hn
  clear hn
  by_cases hlt:k<G.ns.length
  ·obtain⟨g,o,rfl,hgb,hc⟩:=HT.out (by omega)
   have k0:=hc k hlt
   have hgs:g<w.heap.size:=by omega
   have he:=K.eqB (HF.out _ (List.getElem_mem hlt)) hs
   obtain⟨x,hq⟩:∃x,x=G.ns[k]:=⟨_,rfl⟩
   rw[←hq]at k0 he
   have HQ:=aA hq
   clear hc hq
   by_cases hx:x=s
   ·have HR:=aA (HN.out.here hlt (HQ.out.symm.trans hx))
    rw[decide_eq_true hx]at he
    clear hx
    go_wp2
    go_ret
    exact⟨zah HR.out.symm,HB.out _⟩
   ·have HR:=aA (HN.out.next hlt (fun e=>hx (HQ.out.trans e)))
    rw[decide_eq_false hx]at he
    clear hx
    go_wp2
    go_round
    case rel=>exact⟨k+1,by omega,by go_num,HR.out⟩
    case measure=>simp[intOf];omega
  ·obtain rfl:k=G.ns.length:=by omega
   have HR:=aA (HN.out.none (by omega))
   go_wp2
   go_ret
   exact⟨zah HR.out.symm,HB.out _⟩
theorem Gm.has_lt {G:Gm.Gr} {z:Int} (h:Gm.has G z=true):(0≤z→∃k:Nat,z=(k:Int)∧k<G.ts.length)∧(¬0≤z→∃k:Nat,-1-z=(k:Int)∧k<G.ns.length):=by
 unfold Gm.has at h
 constructor
 ·intro h0
  rw[if_pos h0]at h
  exact⟨z.toNat,by omega,by have:=of_decide_eq_true h;omega⟩
 ·intro h0
  rw[if_neg h0]at h
  exact⟨(-1-z).toNat,by omega,by have:=of_decide_eq_true h;omega⟩
theorem zex (v:Value) (G:Gm.Gr) (B:Nat) (z:Int) (hz:Gm.In z) (w:World) (hg:bC w B v G) (hB:B≤w.heap.size) :
  Calls Tryz.prog 74 #[v,.int .i64 z] w fun e w'=>e=.returned (.string (K.str (Gm.name G z)))∧Below w.heap.size w w':=by
 have HB:=aA (fun o=>(Below.refl w.heap.size w).alloc (Nat.le_refl _) o)
 have HH:=aA (fun(x:World) (h:Below w.heap.size w x)=>zfa v G B z hz x (hg.below h hB))
 have HG:=aA hg
 obtain⟨AT,cT,AN,cN,AR,cR,rfl,⟨hlT,hmT⟩,⟨hlN,hmN⟩,_,ht,hn,_⟩:=hg
 have HT:=aA ht
 have HN:=aA hn
 clear ht hn
 by_cases hh:Gm.has G z=true
 ·obtain⟨hp,hq⟩:=Gm.has_lt hh
  unfold Gm.name
  rw[if_pos hh]
  by_cases h0:0≤z
  ·obtain⟨k,rfl,hk⟩:=hp h0
   obtain⟨g,o,rfl,hgb,hc⟩:=HT.out (by omega)
   have k0:=(hc k hk).1
   have hgs:g<w.heap.size:=by omega
   have HE:Hid ((Gm.names G.ts).getD (k:Int).toNat []=G.ts[k].nm):=aA (by simp[Gm.names,hk])
   rw[if_pos h0,HE.out]
   rw[hh]at HH
   generalize G.ts[k].nm=nm at *
   clear hc hp hq hz hh
   go_enter Tryz.func74,Tryz.ntmps74
   go_wp2_with fail
   refine(HH.out _ (HB.out _)).mono ?_;rintro _ w2 ⟨rfl,hb⟩
   have k1:w2.cell? ⟨g,o+k*3,none⟩=some (.string (K.str nm)):=(((HB.out _).trans (hb.mono (by simp))).cell (p:=⟨g,o+k*3,none⟩) hgs).trans k0
   have HB2:=aA ((HB.out _).trans (hb.mono (by simp)))
   have hbb:=hb.block w.heap.size (by simp)
   rw[heap_alloc_new]at hbb
   have hz2:w.heap.size<w2.heap.size:=(Array.getElem?_eq_some_iff.1 hbb).1
   have c0:=cell_of_row w2 _ 0 _ _ _ hbb
   clear hb hbb
   go_wp2
   go_ret
   exact⟨rfl,HB2.out⟩
  ·obtain⟨k,hkk,hk⟩:=hq h0
   obtain⟨g,o,rfl,hgb,hc⟩:=HN.out (by omega)
   have k0:=hc k hk
   have hgs:g<w.heap.size:=by omega
   have HE:Hid (G.ns.getD (-1-z).toNat []=G.ns[k]):=aA (by rw[hkk];simp[hk])
   have HX:=aA (fun w=>zbF z hz.1 hz.2 w)
   rw[if_neg h0,HE.out]
   rw[hh]at HH
   rw[hkk]at HX
   generalize G.ns[k]=nm at *
   have h0':decide (0≤z)=false:=decide_eq_false h0
   clear hc hp hq hz hh hkk
   go_enter Tryz.func74,Tryz.ntmps74
   go_wp2_with fail
   refine(HH.out _ (HB.out _)).mono ?_;rintro _ w2 ⟨rfl,hb⟩
   have k1:w2.cell? ⟨g,o+k,none⟩=some (.string (K.str nm)):=(((HB.out _).trans (hb.mono (by simp))).cell (p:=⟨g,o+k,none⟩) hgs).trans k0
   have HB2:=aA ((HB.out _).trans (hb.mono (by simp)))
   have hbb:=hb.block w.heap.size (by simp)
   rw[heap_alloc_new]at hbb
   have hz2:w.heap.size<w2.heap.size:=(Array.getElem?_eq_some_iff.1 hbb).1
   have c0:=cell_of_row w2 _ 1 _ _ _ hbb
   clear hb hbb
   go_wp2_with fail
   go_quiet ((go_at_call 90;exact Calls.quiet_of_same (HX.out _)))
   go_wp2
   go_ret
   exact⟨rfl,aB HB2.out _⟩
 ·have hh:Gm.has G z=false:=by simpa using hh
  unfold Gm.name
  rw[hh]at HH ⊢
  clear hz hh
  go_enter Tryz.func74,Tryz.ntmps74
  go_wp2_with fail
  refine(HH.out _ (HB.out _)).mono ?_;rintro _ w2 ⟨rfl,hb⟩
  have HB2:=aA ((HB.out _).trans (hb.mono (by simp)))
  clear hb
  go_wp2
  go_ret
  exact⟨rfl,HB2.out⟩
def Rd8 (L:List Int) (B R px py:Nat) (w:World) (ts:List Tok):Prop :=
 ∃A c,w.heap[R]?=some (.cells #[.slice A ts.length c,.complex .f64 px py,.complex .f64 0 0,.int .i64 0] 143 (0,0))∧ts.length≤c∧ts.length≤4000∧RdT L w B A ts∧B≤R
theorem Rd8.lt {L:List Int} {B R px py:Nat} {w:World} {ts:List Tok} (h:Rd8 L B R px py w ts):R<w.heap.size:=by
 obtain⟨A,c,hh,_⟩:=h
 exact(Array.getElem?_eq_some_iff.1 hh).1
theorem Rd8.other {L:List Int} {B R px py:Nat} {w:World} {ts:List Tok} (h:Rd8 L B R px py w ts):bA w (some R):=by
 obtain⟨A,c,hh,_⟩:=h
 intro k hk cur he
 injection hk with hk
 subst hk
 rw[hh]at he
 injection he with he
 injection he with _ he
 cases he
theorem Rd8.grown {L:List Int} {B R px py:Nat} {w w':World} {ts:List Tok} {row:Option Nat} (h:Rd8 L B R px py w ts) (hg:w.grownBy w' row) (hr:∀k,row=some k→R<k):Rd8 L B R px py w' ts:=by
 have hlt:=h.lt
 obtain⟨A,c,hh,h1,h2,h3,h4⟩:=h
 exact⟨A,c,(hg.block R hlt (fun e=>by have:=hr R e.symm;omega)).trans hh,h1,h2,h3.grown hg (fun k e=>by have:=hr k e;omega) (by omega),h4⟩
theorem Rd8.alloc {L:List Int} {B R px py:Nat} {w:World} {ts:List Tok} (h:Rd8 L B R px py w ts) (o:Obj):Rd8 L B R px py (w.alloc o) ts :=
 h.grown (row:=.none) (aC (World.grownBy.refl _ _) o) (fun _ e=>by cases e)
theorem Rd8.own {L:List Int} {B R px py base:Nat} {w w':World} {ts:List Tok} {e:TypeId} {size n:Nat} {v:Value} {xs:List Value} (h:Rd8 L B R px py w ts) (ho:w.ownsRow base e size v n xs) (hg:w.grownBy w' v.ownBlock) (hb:R<base):Rd8 L B R px py w' ts :=
 h.grown hg (fun k e=>by have:=(World.ownsRow.lt ho k e).1;omega)
theorem Rd8.far {L:List Int} {B R px py:Nat} {w:World} {ts:List Tok} (h:Rd8 L B R px py w ts) (g i:Nat) (u:Value) (hg:R<g):Rd8 L B R px py (w.setCell ⟨g,i,none⟩ u) ts :=
 h.grown (aD (World.grownBy.refl w (some g)) i u) (fun k e=>by injection e with e;omega)
theorem Rd8.cell0 {L:List Int} {B R px py:Nat} {w:World} {ts:List Tok} (h:Rd8 L B R px py w ts):∃A c,w.cell? ⟨R,0,none⟩=some (.slice A ts.length c)∧w.cell? ⟨R,3,none⟩=some (.int .i64 0)∧w.frozen? ⟨R,0,none⟩=false∧ts.length≤c∧RdT L w B A ts ∧
  ∀A' c' ts',ts'.length≤c'→ts'.length≤4000→RdT L w B A' ts'→Rd8 L B R px py (w.setCell ⟨R,0,none⟩ (.slice A' ts'.length c')) ts':=by
 obtain⟨A,c,hh,h1,h2,h3,h4⟩:=h
 refine⟨A,c,by rw[cell_of_row w R 0 _ _ _ hh];rfl,by rw[cell_of_row w R 3 _ _ _ hh];rfl,frozen_of_row w R 0 _ _ hh,h1,h3,fun A' c' ts' k1 k2 k3=>⟨A',c',?_,k1,k2,?_,h4⟩⟩
 ·rw[heap_setCell_same w R 0 _ _ _ hh];rfl
 ·exact k3.keep fun g o hg=>World.cell?_of_block (Below.heap_setCell w ⟨R,0,none⟩ _ g (by simp only;omega))
def kd:List Tok→Int
 | []=>0
 | t::_=>t.k
theorem zk7 (L:List Int) (B R px py:Nat) (ts:List Tok) (w:World) (hr:Rd8 L B R px py w ts) :
  Calls Tryz.prog 97 #[.pointer (some ⟨R,0,none⟩)] w fun e w'=>e=.returned (.int .i64 (kd ts))∧w=w':=by
 obtain⟨A,c,h0,h3,_,hc,ht,_⟩:=hr.cell0
 rcases ts with _|⟨t,r⟩
 ·clear hr ht
  go_enter Tryz.func97,Tryz.ntmps97
  go_wp2
  go_ret
  exact⟨rfl,rfl⟩
 ·obtain⟨g,o,rfl,_,hcl⟩:=ht (by simp)
  have hcell:w.cell? ⟨g,o,none⟩=some (.int .i64 t.k):=hcl 0 0 _ (by simp) rfl
  have hl:0<((t::r).length:Int):=by simp
  have hl0:(((t::r).length:Int)==0)=false:=by simp;omega
  have HK:Hid (kd (t::r)=t.k):=aA rfl
  rw[HK.out]
  clear hr ht hcl
  generalize (t::r).length=n at *
  generalize t.k=z at *
  go_enter Tryz.func97,Tryz.ntmps97
  go_wp2
  go_ret
  exact⟨rfl,rfl⟩
theorem is8 (L:List Int) (B R px py:Nat) (ts:List Tok) (a b:Int) (w:World) (hr:Rd8 L B R px py w ts) :
  Calls Tryz.prog 135 #[.pointer (some ⟨R,0,none⟩),.int .i64 a,.int .i64 b] w fun e w'=>e=.returned (.bool (Y.is [a,b] ts))∧w=w':=by
 have HK:=aA (zk7 L B R px py ts w hr)
 obtain⟨A,c,h0,h3,_,hc,ht,_⟩:=hr.cell0
 rcases ts with _|⟨t,r⟩
 ·clear hr ht
  go_enter Tryz.func135,Tryz.ntmps135
  go_wp2
  go_ret
  exact⟨rfl,rfl⟩
 ·have hl:0<((t::r).length:Int):=by simp
  have HE:Hid (Y.is [a,b] (t::r)=((t.k==a)||(t.k==b))):=aA (by show [a,b].contains t.k=_;simp[List.contains,List.elem];cases (t.k==a) <;> cases (t.k==b) <;> rfl)
  have HK2:Hid (kd (t::r)=t.k):=aA rfl
  rw[HE.out]
  rw[HK2.out]at HK
  clear hr ht
  generalize (t::r).length=n at *
  generalize t.k=z at *
  by_cases ha:z=a
  ·have ha':(z==a)=true:=by simpa using ha
   rw[ha',Bool.true_or]
   clear ha
   go_enter Tryz.func135,Tryz.ntmps135
   go_wp2_with fail
   refine HK.out.mono ?_;rintro _ _ ⟨rfl,rfl⟩
   go_wp2
   go_ret
   exact⟨rfl,rfl⟩
  ·have ha':(z==a)=false:=by simpa using ha
   rw[ha',Bool.false_or]
   clear ha
   generalize hb:(z==b)=q at *
   go_enter Tryz.func135,Tryz.ntmps135
   go_wp2_with fail
   refine HK.out.mono ?_;rintro _ _ ⟨rfl,rfl⟩
   go_wp2_with fail
   refine HK.out.mono ?_;rintro _ _ ⟨rfl,rfl⟩
   go_wp2
   go_ret
   exact⟨rfl,rfl⟩
theorem zeP (L:List Int) (B R px py:Nat) (t:Tok) (r:List Tok) (a b:Int) (w:World) (hr:Rd8 L B R px py w (t::r)) (hk:Y.is [a,b] (t::r)=true) :
  Calls Tryz.prog 95 #[.pointer (some ⟨R,0,none⟩),.int .i64 a,.int .i64 b] w fun e w'=>e=.returned (bK L t)∧w.grownBy w' (some R)∧Rd8 L B R px py w' r:=by
 have HR:=aA (fun(w1:World) (h1:Below w.heap.size w w1)=>hr.grown (row:=.none) (aQ h1 .none) (fun _ e=>by cases e))
 have HB0:=aA (fun o=>((Below.refl w.heap.size w).alloc (Nat.le_refl _) o))
 have hlt:=hr.lt
 obtain⟨A,c,h0,h3,hf,hc,ht,hset⟩:=hr.cell0
 obtain⟨g,o,hA,hgB,hcl⟩:=ht (by simp)
 have hc0:w.cell? ⟨g,o,none⟩=some (.int .i64 t.k):=hcl 0 0 _ (by simp) rfl
 have hc1:w.cell? ⟨g,o+1,none⟩=some (.string (K.str t.t)):=hcl 0 1 _ (by simp) rfl
 have hc2:w.cell? ⟨g,o+2,none⟩=some (.complex .f64 (Fl.fl (Pl.pos (L.take t.o)).1) (Fl.fl (Pl.pos (L.take t.o)).2)):=hcl 0 2 _ (by simp) rfl
 have hglt:g<w.heap.size:=by obtain⟨_,_,_,_,_,_,hBR⟩:=hr;omega
 have HIS:=aA (fun(w1:World) (h1:Below w.heap.size w w1)=>is8 L B R px py (t::r) a b w1 (HR.out w1 h1))
 rw[hk]at HIS
 have HT:=aA (ht.tail hc)
 have HSET:=aA hset
 have S1:=fun w=>zcT w A c (t::r).length (by simp)
 have SC:=fun a w m X Y=>show(store a (.complex .f64 X Y) m).run Tryz.prog w=stored Tryz.prog w a (.complex .f64 X Y) m from run_store _ w a _ m rfl
 have hl0:(((t::r).length:Int)==0)=false:=by simp;omega
 have hl1:0<(t::r).length:=by simp
 have HN:Hid ((t::r).length=r.length+1∧r.length+1≤c∧r.length+1≤4000):=aA ⟨rfl,hc,by obtain⟨_,_,_,_,h4,_,_⟩:=hr;simpa using h4⟩
 unfold bK
 clear hr ht hcl hset hk
 subst hA
 generalize (t::r).length=n at *
 generalize t.k=z at *
 generalize K.str t.t=st at *
 generalize Fl.fl (Pl.pos (L.take t.o)).1=X at *
 generalize Fl.fl (Pl.pos (L.take t.o)).2=Y' at *
 go_enter Tryz.func95,Tryz.ntmps95
 go_wp2_with fail
 refine(HIS.out _ (HB0.out _)).mono ?_;rintro _ w2 ⟨rfl,rfl⟩
 go_wp2
 have hk:=HSET.out (zgr (some ⟨g,o,none⟩) c) (c-1) r (by have:=HN.out;omega) (by have:=HN.out;omega) HT.out
 refine bodyPost_ret (v:=.agg #[.string st,.complex .f64 X Y']) (by simp[results,Tryz.results95,go_sem]) rfl ⟨rfl,aC (aC (aD (World.grownBy.refl _ _) _ _) _) _,?_⟩
 rw[show n-1=r.length by have:=HN.out;omega]
 exact(hk.alloc _).alloc _
def zlL (L:List Int) (B R px py:Nat) (ts:List Tok) (w:World) (e:Ending) (w':World):Prop :=
 w.grownBy w' (some R)∧∃v,e=.returned v∧bN L w' w.heap.size v (ts.takeWhile Y.isRef)∧Rd8 L B R px py w' (ts.dropWhile Y.isRef)
theorem zkh (L:List Int) (B R px py:Nat) (ts:List Tok) (w:World) (hr:Rd8 L B R px py w ts) :
  Calls Tryz.prog 134 #[.pointer (some ⟨R,0,none⟩)] w (zlL L B R px py ts w):=by
 have HR:=aA hr
 have hRlt:=hr.lt
 have hts:ts.length≤4000:=by obtain⟨_,_,_,_,h,_⟩:=hr;exact h
 clear hr
 go_enter Tryz.func134,Tryz.ntmps134
 go_wp2
 go_loopw [3] (fun v wr=>∃(acc rest:List Tok),bN L wr w.heap.size v acc∧Rd8 L B R px py wr rest∧w.grownBy wr (some R)∧acc.length+rest.length=ts.length∧acc++rest.takeWhile Y.isRef=ts.takeWhile Y.isRef∧rest.dropWhile Y.isRef=ts.dropWhile Y.isRef) (fun v _=>4001-zaZ v)
 case atStart=>exact⟨[],ts,bN.nil _ _ _,HR.out,World.grownBy.refl _ _,by simp,rfl,rfl⟩
 case round =>
  clear HR
  obtain⟨acc,rest,ho,hr,hg,hlen,htk,hdp⟩:=hrel
  have HO:=aA ho
  have HR:=aA hr
  have HG:=aA hg
  have HL:=aA hlen
  have HTK:=aA htk
  have HDP:=aA hdp
  obtain⟨A,c,rfl,hc1,hc2⟩:=ho.rd
  have HIS:=aA (is8 L B R px py rest 1 2 wr hr)
  clear ho hr hg hlen htk hdp hc1 hc2
  rcases hb:Y.is [1,2] rest with _|_
  ·rw[hb]at HIS
   have HB:=aA hb
   clear hb
   go_wp2_with fail
   refine HIS.out.mono ?_;rintro _ w2 ⟨rfl,rfl⟩
   go_wp2
   go_ret
   obtain⟨e1,e2⟩:=Y.refs_end HB.out
   rw[e1,List.append_nil]at HTK
   rw[e2]at HDP
   refine⟨HG.out,_,rfl,?_,?_⟩
   ·rw[←HTK.out];exact HO.out
   ·rw[←HDP.out];exact HR.out
  ·rw[hb]at HIS
   have HB:=aA hb
   obtain⟨t,r,rfl,htake,hk⟩:=Y.is_true hb
   have HRF:=aA (zeP L B R px py t r 1 2 wr HR.out hb)
   have HK:Hid (Y.isRef t=true):=aA hk
   clear hb htake hk
   unfold bK at HRF
   go_wp2_with fail
   refine HIS.out.mono ?_;rintro _ w2 ⟨rfl,rfl⟩
   go_wp2_with fail
   refine HRF.out.mono ?_;rintro _ w3 ⟨rfl,hg3,hrd⟩
   have HG3:=aA hg3
   have HRD:=aA hrd
   have HO3:=aA (HO.out.grown hg3 HR.out.other)
   clear hg3 hrd
   have HCE:=aA (zec L w3 t)
   have HS0:Hid (w.heap.size≤w3.heap.size):=aA (by have h1:=HG.out.size;have h3:=HG3.out.size;omega)
   have HAC:Hid (acc.length≤4000):=aA (by have:=HL.out;simp at this;omega)
   go_wp2_with (at_builtin;refine ziy rfl (.tmp 6) (.tmp 9) _ rfl Tryz.underlying102 L w.heap.size _ acc rfl (HO3.out.alloc _) w3.heap.size 1 t rfl HCE.out (by have:=HAC.out;omega) (by have:=HS0.out;simp;omega) ?_;intro v4 w4 ho4 hg4)
   have HG4:=aA (aS (aC (HG.out.trans HG3.out) _) (HO3.out.alloc _) hg4)
   have HRD4:=aA ((HRD.out.alloc _).own (HO3.out.alloc _) hg4 hRlt)
   have HO4:=aA ho4
   clear ho4 hg4
   go_roundw
   case rel =>
    refine⟨acc++[t],r,HO4.out,HRD4.out,HG4.out,?_,?_,?_⟩
    ·have:=HL.out;simp at this ⊢;omega
    ·rw[←HTK.out,List.takeWhile_cons,HK.out];simp
    ·rw[←HDP.out,List.dropWhile_cons,HK.out];rfl
   case measure =>
    obtain⟨A4,c4,rfl,_,_⟩:=HO4.out.rd
    have:=HAC.out
    simp[zaZ];omega
theorem zck (l:List Int) (hl:K.Bytes l) (w:World) :
  Calls Tryz.prog 51 #[.string (K.str l)] w fun e w'=>e=.returned (.bool (T.isName l))∧w=w':=by
 have hsz:=K.str_size l
 by_cases h0:l.length=0
 ·obtain rfl:=List.eq_nil_of_length_eq_zero h0
  rw[show T.isName []=false from rfl]
  have hs0:((K.str []).size:Int)=0:=by rw[hsz];rfl
  clear hsz hl h0
  generalize K.str []=s at *
  go_enter Tryz.func51,Tryz.ntmps51
  go_wp2
  go_ret
  exact⟨rfl,rfl⟩
 by_cases h20:l.length≤20
 ·have hiff:=T.isName_iff l
  rw[decide_eq_true h0,decide_eq_true h20,Bool.true_and,Bool.true_and]at hiff
  have hp:0<(K.str l).size:=by omega
  have hb0:=K.str_get hl 0 hp
  have P1:=aA (fun w=>zaC (l.getD 0 0) w)
  have hp2:(((K.str l).size:Int)==0)=false:=beq_eq_false_iff_ne.2 (by omega)
  have hs3:((K.str l).size:Int)≤20:=by omega
  by_cases hh:T.head (l.getD 0 0)=true
  ·rw[hh,Bool.true_and]at hiff
   have HI:=aA hiff
   have hsz':(l.length:Int)=((K.str l).size:Int):=by omega
   have HB:=aA (fun k h=>K.str_get hl k h)
   have HP:=aA (fun k w=>zeu (l.getD k 0) w)
   rw[hh]at P1
   have HL:=aA hsz
   clear hsz hsz' hiff hh h0 h20 hl
   generalize l.getD 0 0=z at *
   generalize T.isName l=res at *
   generalize K.str l=s at *
   go_enter Tryz.func51,Tryz.ntmps51
   go_wp2_with fail
   refine(P1.out _).mono ?_;rintro _ w' ⟨rfl,rfl⟩
   go_wp2
   go_loop [3] (fun vi=>∃(k:Nat),k≤s.size∧vi=.int .i64 k∧∀j,j<k→T.inName (l.getD j 0)=true) (fun vi=>s.size-(intOf vi).toNat)
   case atStart=>exact⟨0,by omega,rfl,fun j hj=>by omega⟩
   case round =>
    obtain⟨k,hk,rfl,hs⟩:=hrel
    have HS:=aA hs
    clear hs hb0 P1
    by_cases hlt:k<s.size
    ·have hbk:=HB.out k hlt
     have P2:=aA (HP.out k)
     rcases hq:T.inName (l.getD k 0) with _|_
     ·have HF:Hid (T.inName (l.getD k 0)=false):=aA hq
      rw[hq]at P2
      clear hq
      have HK:Hid (k<l.length):=aA (by have:=HL.out;omega)
      generalize hz:l.getD k 0=z at *
      have HZ:=aA hz
      clear hz
      go_wp2_with fail
      refine(P2.out _).mono ?_;rintro _ w' ⟨rfl,rfl⟩
      go_wp2
      go_ret
      refine⟨aG ?_,rfl⟩
      rw[HI.out]
      symm
      apply decide_eq_false
      intro h
      have h1:=h k HK.out
      have h2:=HF.out
      rw[HZ.out]at h1
      rw[h1]at h2;cases h2
     ·have HF:Hid (T.inName (l.getD k 0)=true):=aA hq
      rw[hq]at P2
      clear hq
      generalize hz:l.getD k 0=z at *
      have HZ:=aA hz
      clear hz
      go_wp2_with fail
      refine(P2.out _).mono ?_;rintro _ w' ⟨rfl,rfl⟩
      go_wp2
      go_round
      case rel =>
       refine⟨k+1,by omega,by go_num,fun j hj=>?_⟩
       by_cases hjk:j=k
       ·subst hjk;rw[HZ.out];exact HF.out
       ·exact HS.out j (by omega)
      case measure=>simp[intOf];omega
    ·obtain rfl:k=s.size:=by omega
     go_wp2
     go_ret
     refine⟨aG ?_,rfl⟩
     rw[HI.out]
     symm
     apply decide_eq_true
     intro j hj
     exact HS.out j (by have:=HL.out;omega)
  ·have hh':T.head (l.getD 0 0)=false:=by simpa using hh
   rw[hh',Bool.false_and]at hiff
   rw[hiff]
   rw[hh']at P1
   clear hsz hiff hh hh' h0 h20 hl
   generalize l.getD 0 0=z at *
   generalize K.str l=s at *
   go_enter Tryz.func51,Tryz.ntmps51
   go_wp2_with fail
   refine(P1.out _).mono ?_;rintro _ w' ⟨rfl,rfl⟩
   go_wp2
   go_ret
   exact⟨rfl,rfl⟩
 ·have hv:T.isName l=false:=by unfold T.isName;rw[decide_eq_false h20];rfl
  rw[hv]
  have h21:((K.str l).size:Int) > 20:=by omega
  have h22:(((K.str l).size:Int)==0)=false:=beq_eq_false_iff_ne.2 (by omega)
  clear hv h0 hl h20 hsz
  generalize K.str l=s at *
  go_enter Tryz.func51,Tryz.ntmps51
  go_wp2
  go_ret
  exact⟨rfl,rfl⟩
theorem zdv (l:List Int) (hl:K.Bytes l) (w:World) :
  Calls Tryz.prog 76 #[.string (K.str l)] w fun e w'=>e=.returned (.bool (T.isLit l))∧w=w':=by
 have hsz:=K.str_size l
 by_cases h3:l.length=3
 ·obtain⟨a,b,c,rfl⟩:∃a b c,l=[a,b,c]:=by
   match l,h3 with
   | [a,b,c],_=>exact⟨a,b,c,rfl⟩
  clear h3
  have hs:(K.str [a,b,c]).size=3:=hsz
  have hp0:0<(K.str [a,b,c]).size:=by omega
  have hp1:1<(K.str [a,b,c]).size:=by omega
  have hp2:2<(K.str [a,b,c]).size:=by omega
  have hb0:(((K.str [a,b,c])[0]'hp0).toNat:Int)=a:=K.str_get hl 0 hp0
  have hb1:(((K.str [a,b,c])[1]'hp1).toNat:Int)=b:=K.str_get hl 1 hp1
  have hb2:(((K.str [a,b,c])[2]'hp2).toNat:Int)=c:=K.str_get hl 2 hp2
  have hq:(((K.str [a,b,c]).size:Int)==3)=true:=by rw[hs];rfl
  unfold T.isLit
  clear hs hsz hl
  generalize K.str [a,b,c]=s at *
  go_enter Tryz.func76,Tryz.ntmps76
  go_wp2
  all_goals go_ret
  all_goals (refine⟨aG ?_,rfl⟩;first|(simp_all;done)|(simp_all;omega))
 by_cases h4:l.length=4
 ·obtain⟨a,b,c,d,rfl⟩:∃a b c d,l=[a,b,c,d]:=by
   match l,h4 with
   | [a,b,c,d],_=>exact⟨a,b,c,d,rfl⟩
  clear h3 h4
  have hs:(K.str [a,b,c,d]).size=4:=hsz
  have hp0:0<(K.str [a,b,c,d]).size:=by omega
  have hp1:1<(K.str [a,b,c,d]).size:=by omega
  have hp2:2<(K.str [a,b,c,d]).size:=by omega
  have hp3:3<(K.str [a,b,c,d]).size:=by omega
  have hb0:(((K.str [a,b,c,d])[0]'hp0).toNat:Int)=a:=K.str_get hl 0 hp0
  have hb1:(((K.str [a,b,c,d])[1]'hp1).toNat:Int)=b:=K.str_get hl 1 hp1
  have hb2:(((K.str [a,b,c,d])[2]'hp2).toNat:Int)=c:=K.str_get hl 2 hp2
  have hb3:(((K.str [a,b,c,d])[3]'hp3).toNat:Int)=d:=K.str_get hl 3 hp3
  have hq3:(((K.str [a,b,c,d]).size:Int)==3)=false:=by rw[hs];rfl
  have hq:(((K.str [a,b,c,d]).size:Int)==4)=true:=by rw[hs];rfl
  unfold T.isLit
  clear hs hsz hl
  generalize K.str [a,b,c,d]=s at *
  go_enter Tryz.func76,Tryz.ntmps76
  go_wp2
  all_goals go_ret
  all_goals (refine⟨aG ?_,rfl⟩;first|(simp_all;done)|(simp_all;omega))
 ·have hv:T.isLit l=false:=by
   rcases hq:T.isLit l with _|_
   ·rfl
   ·have:=T.isLit_len hq;omega
  rw[hv]
  have hq3:(((K.str l).size:Int)==3)=false:=beq_eq_false_iff_ne.2 (by omega)
  have hq4:(((K.str l).size:Int)==4)=false:=beq_eq_false_iff_ne.2 (by omega)
  clear hv hl hsz h3 h4
  generalize K.str l=s at *
  go_enter Tryz.func76,Tryz.ntmps76
  go_wp2
  go_ret
  exact⟨rfl,rfl⟩
def One (w:World) (a:Array Value) (wr:World):Prop:=Below (w.heap.size+1) (w.alloc (.cells a 26)) wr
theorem One.start (w:World) (a:Array Value):One w a (w.alloc (.cells a 26)):=Below.refl _ _
theorem One.size {w wr:World} {a:Array Value} (h:One w a wr):w.heap.size+1≤wr.heap.size:=by have:=Below.size h;simpa using this
theorem One.below {w wr:World} {a:Array Value} (h:One w a wr):Below w.heap.size w wr:=((Below.refl w.heap.size w).alloc (Nat.le_refl _) _).trans (Below.mono h (by omega))
theorem One.on {w wr wt:World} {a:Array Value} (h:One w a wr) (k:Below wr.heap.size wr wt):One w a wt:=Below.trans h (k.mono h.size)
theorem One.drewN {w wr:World} {a:Array Value} (h:One w a wr) (n:Nat):One w a (wr.drewN n):=aB h n
theorem One.alloc {w wr:World} {a:Array Value} (h:One w a wr) (o:Obj):One w a (wr.alloc o):=Below.alloc h h.size o
theorem One.c {w wr:World} {a:Array Value} (h:One w a wr) (j:Nat) (u:Value) (hj:a[j]?=some u):wr.cell? ⟨w.heap.size,j,none⟩=some u:=by
 have b0:=(Below.block h w.heap.size (by omega)).trans (heap_alloc_new w _)
 exact(cell_of_row wr _ j _ _ _ b0).trans hj
theorem zay (s:List Int) (hs:K.Tx s) (w:World) :
  Calls Tryz.prog 48 #[.string (K.str s)] w fun e w'=>e=.returned (.bool (Gm.named s))∧w=w':=by
 have HN:=aA (fun w=>zck s hs.1 w)
 have HL:=aA (fun w=>zdv s hs.1 w)
 unfold Gm.named
 clear hs
 cases q:T.isName s
 ·rw[q]at HN
  clear q
  generalize T.isLit s=b at *
  go_enter Tryz.func48,Tryz.ntmps48
  go_wp2_with fail
  refine(HN.out _).mono ?_;rintro _ _ ⟨rfl,rfl⟩
  go_wp2_with fail
  refine(HL.out _).mono ?_;rintro _ _ ⟨rfl,rfl⟩
  go_wp2
  go_ret
  exact⟨aG (by simp),rfl⟩
 ·rw[q]at HN
  clear q
  go_enter Tryz.func48,Tryz.ntmps48
  go_wp2_with fail
  refine(HN.out _).mono ?_;rintro _ _ ⟨rfl,rfl⟩
  go_wp2
  go_ret
  exact⟨aG (by simp),rfl⟩
theorem zjg {n:Int} {ts:List Gm.Tm} {k:Nat} (h:k<ts.length) (z:Int):Gm.lev n (ts.drop k) z=if ts[k].lv≠n then Gm.lev n (ts.drop (k+1)) z else if z≠0∧z≠ts[k].wy then false else Gm.lev n (ts.drop (k+1)) ts[k].wy:=by
 rw[List.drop_eq_getElem_cons h,Gm.lev]
theorem zkt {n:Int} {ts:List Gm.Tm} {k:Nat} (h:ts.length≤k) (z:Int):Gm.lev n (ts.drop k) z=(z != 0):=by
 rw[List.drop_eq_nil_of_le h,Gm.lev]
theorem zhV (v:Value) (G:Gm.Gr) (n:Int) (B:Nat) (w:World) (hg:bC w B v G) (hB:B≤w.heap.size) :
  Calls Tryz.prog 50 #[v,.int .i64 n] w fun e w'=>e=.returned (.bool (Gm.lev n G.ts 0))∧Below w.heap.size w w':=by
 obtain⟨AT,cT,AN,cN,AR,cR,rfl,⟨hl,hm⟩,_,_,ht,_,_⟩:=hg
 have HT:=aA ht
 have HS0:=aA (One.start w #[.slice AT G.ts.length cT,.slice AN G.ns.length cN,.slice AR G.rs.length cR,.int .i64 G.st])
 clear ht
 go_enter Tryz.func50,Tryz.ntmps50
 go_wp2
 go_loopw [5,6] (fun vw vi wr=>∃(k:Nat) (z:Int),k≤G.ts.length∧vi=.int .i64 k∧vw=.int .i64 z∧Hid (Gm.lev n G.ts 0=Gm.lev n (G.ts.drop k) z)∧One w #[.slice AT G.ts.length cT,.slice AN G.ns.length cN,.slice AR G.rs.length cR,.int .i64 G.st] wr) (fun _ vi _=>G.ts.length-(intOf vi).toNat)
 case atStart=>exact⟨0,0,Nat.zero_le _,rfl,rfl,aA rfl,HS0.out⟩
 case round =>
  obtain⟨k,z,hk,rfl,rfl,HE,hb⟩:=hrel
  have HB:=aA hb
  have q0:=hb.c 0 _ rfl
  have hz:w.heap.size<wr.heap.size:=hb.size
  have hbw:=hb.below
  clear hb
  by_cases hlt:k<G.ts.length
  ·obtain⟨g,o,rfl,hgb,hc⟩:=HT.out (by omega)
   have k0:=(hbw.cell (p:=⟨g,o+k*3,none⟩) (Nat.lt_of_lt_of_le hgb hB)).trans (hc k hlt).1
   have k1:=(hbw.cell (p:=⟨g,o+k*3+1,none⟩) (Nat.lt_of_lt_of_le hgb hB)).trans (hc k hlt).2.1
   have k2:=(hbw.cell (p:=⟨g,o+k*3+2,none⟩) (Nat.lt_of_lt_of_le hgb hB)).trans (hc k hlt).2.2
   have hgs:g<wr.heap.size:=by omega
   have HN:=aA (HE.out.trans (zjg hlt z))
   clear hc hbw
   generalize G.ts[k].nm=nm at *
   generalize G.ts[k].lv=lv at *
   generalize G.ts[k].wy=wy at *
   by_cases hx:lv=n
   ·subst hx
    have hx':(lv != lv)=false:=by simp
    by_cases hy:z=0
    ·have HR:=aA (HN.out.trans ((if_neg (by simp)).trans (if_neg (by simp[hy]))))
     subst hy
     go_wp2
     go_roundw
     case rel=>exact⟨k+1,wy,by omega,by go_num,rfl,HR,HB.out.alloc _⟩
     case measure=>simp[intOf];omega
    ·have hy':(z != 0)=true:=by simpa using hy
     by_cases hq:z=wy
     ·have HR:=aA (HN.out.trans ((if_neg (by simp)).trans (if_neg (by simp[hq]))))
      have hq':(z != wy)=false:=by simpa using hq
      clear hq hy
      go_wp2
      go_roundw
      case rel=>exact⟨k+1,wy,by omega,by go_num,rfl,HR,HB.out.alloc _⟩
      case measure=>simp[intOf];omega
     ·have HR:=aA (HN.out.trans ((if_neg (by simp)).trans (if_pos ⟨hy,hq⟩)))
      have hq':(z != wy)=true:=by simpa using hq
      clear hq hy
      go_wp2
      go_ret
      exact⟨aG HR.out.symm,(HB.out.alloc _).below⟩
   ·have HR:=aA (HN.out.trans (if_pos hx))
    have hx':(lv != n)=true:=by simpa using hx
    clear hx
    go_wp2
    go_roundw
    case rel=>exact⟨k+1,z,by omega,by go_num,rfl,HR,HB.out.alloc _⟩
    case measure=>simp[intOf];omega
  ·obtain rfl:k=G.ts.length:=by omega
   have HR:=aA (HE.out.trans (zkt (Nat.le_refl _) z))
   clear hbw
   go_wp2
   go_ret
   exact⟨aG HR.out.symm,HB.out.below⟩
theorem zaF {ts:List Gm.Tm} {k:Nat} (h:k<ts.length) (hn:Gm.term1 ts k ts[k]=false):Gm.terms ts=false:=by
 unfold Gm.terms
 rw[Bool.and_eq_false_iff]
 exact .inr (decide_eq_false fun q=>by have:=q k h;rw[hn]at this;cases this)
theorem zf4 {ts:List Gm.Tm} (h:24<ts.length):Gm.terms ts=false:=by
 unfold Gm.terms
 rw[decide_eq_false (by omega)];rfl
def LvOk (ts:List Gm.Tm) (j:Nat):Prop:=∀m,m+1<j→Gm.lev ((m+1:Nat):Int) ts 0=true
def zkJ (ts:List Gm.Tm) (k:Nat):Prop:=∀i (h:i<ts.length),i<k→Gm.term1 ts i ts[i]=true
theorem zkJ.next {ts:List Gm.Tm} {k:Nat} (h:zkJ ts k) (hk:k<ts.length) (hn:Gm.term1 ts k ts[k]=true):zkJ ts (k+1):=fun i hi hik=>by
 rcases Nat.lt_or_ge i k with q|q
 ·exact h i hi q
 ·obtain rfl:i=k:=by omega
  exact hn
theorem zkJ.all {ts:List Gm.Tm} (h:zkJ ts ts.length) (hl:ts.length≤24):Gm.terms ts=true:=by
 unfold Gm.terms
 rw[decide_eq_true hl,decide_eq_true fun i hi=>h i hi hi];rfl
theorem zgd (v:Value) (G:Gm.Gr) (B:Nat) (w:World) (hg:bC w B v G) (hf:Gm.Fit G) (hB:B≤w.heap.size) :
  Calls Tryz.prog 27 #[v] w fun e w'=>e=.returned (.bool (Gm.terms G.ts))∧Below w.heap.size w w':=by
 have HG:=aA hg
 obtain⟨AT,cT,AN,cN,AR,cR,rfl,⟨hl,hm⟩,_,_,ht,_,_⟩:=hg
 have HT:=aA ht
 have HF:=aA hf
 have HS0:=aA (One.start w #[.slice AT G.ts.length cT,.slice AN G.ns.length cN,.slice AR G.rs.length cR,.int .i64 G.st])
 clear ht hf
 by_cases h24:24<G.ts.length
 ·rw[zf4 h24]
  go_enter Tryz.func27,Tryz.ntmps27
  go_wp2
  go_ret
  exact⟨rfl,HS0.out.below⟩
 go_enter Tryz.func27,Tryz.ntmps27
 go_wp2
 go_loopw [3] (fun vi wr=>∃(k:Nat),k≤G.ts.length∧vi=.int .i64 k∧zkJ G.ts k∧One w #[.slice AT G.ts.length cT,.slice AN G.ns.length cN,.slice AR G.rs.length cR,.int .i64 G.st] wr) (fun vi _=>G.ts.length-(intOf vi).toNat)
 case atStart=>exact⟨0,Nat.zero_le _,rfl,fun _ _ h=>by omega,HS0.out⟩
 case round =>
  obtain⟨k,hk,rfl,HE,hb⟩:=hrel
  have HE:=aA HE
  have HB:=aA hb
  have q0:=hb.c 0 _ rfl
  have q1:=hb.c 1 _ rfl
  have q2:=hb.c 2 _ rfl
  have q3:=hb.c 3 _ rfl
  have hz:w.heap.size<wr.heap.size:=hb.size
  have hbw:=hb.below
  clear hb
  by_cases hlt:k<G.ts.length
  ·obtain⟨g,o,rfl,hgb,hc⟩:=HT.out (by omega)
   have k0:=(hbw.cell (p:=⟨g,o+k*3,none⟩) (Nat.lt_of_lt_of_le hgb hB)).trans (hc k hlt).1
   have k1:=(hbw.cell (p:=⟨g,o+k*3+1,none⟩) (Nat.lt_of_lt_of_le hgb hB)).trans (hc k hlt).2.1
   have k2:=(hbw.cell (p:=⟨g,o+k*3+2,none⟩) (Nat.lt_of_lt_of_le hgb hB)).trans (hc k hlt).2.2
   have hgs:g<wr.heap.size:=by omega
   have hft:=HF.out.t _ (List.getElem_mem hlt)
   have HNM:=aA (fun x=>zay _ hft.1 x)
   have HTM:=aA (fun(x:World) (h:One w #[.slice (some ⟨g,o,none⟩) G.ts.length cT,.slice AN G.ns.length cN,.slice AR G.rs.length cR,.int .i64 G.st] x)=>zbq _ G _ B x (HG.out.below h.below hB) HF.out hft.1 (Nat.le_trans hB h.below.size))
   have HLV:=aA (fun(n:Int) (x:World) (h:One w #[.slice (some ⟨g,o,none⟩) G.ts.length cT,.slice AN G.ns.length cN,.slice AR G.rs.length cR,.int .i64 G.st] x)=>zhV _ G n B x (HG.out.below h.below hB) (Nat.le_trans hB h.below.size))
   obtain⟨t,qt⟩:∃t,t=G.ts[k]:=⟨_,rfl⟩
   rw[←qt]at k0 k1 k2 hft HNM HTM
   have QT:=aA qt.symm
   have hlb:=hft.2.1
   unfold Gm.In at hlb
   clear hc hbw qt hft
   unfold Gm.term at HTM
   obtain⟨nm,lv,wy⟩:=t
   simp only at k0 k1 k2 HNM HTM hlb
   by_cases c0:Gm.named nm=true
   case neg =>
    have c0':=Bool.eq_false_iff.2 c0
    have HX:Hid (Gm.terms G.ts=false):=aA (zaF hlt (by rw[QT.out];unfold Gm.term1;simp[c0']))
    rw[c0']at HNM
    clear c0 c0'
    go_wp2_with fail
    refine(HNM.out _).mono ?_;rintro _ _ ⟨rfl,rfl⟩
    go_wp2
    go_ret
    exact⟨aG HX.out.symm,(HB.out.alloc _).below⟩
   rw[c0]at HNM
   have C0:=aA c0
   clear c0
   by_cases c1:Gm.find (Gm.names G.ts) nm=(k:Int)
   case neg =>
    have HX:Hid (Gm.terms G.ts=false):=aA (zaF hlt (by rw[QT.out];unfold Gm.term1;simp[c1]))
    have f1:(Gm.find (Gm.names G.ts) nm != (k:Int))=true:=by simpa using c1
    clear c1
    go_wp2_with fail
    refine(HNM.out _).mono ?_;rintro _ _ ⟨rfl,rfl⟩
    go_wp2_with fail
    refine(HTM.out _ (HB.out.alloc _)).mono ?_;rintro _ w2 ⟨rfl,hb2⟩
    have HB2:=aA ((HB.out.alloc _).on hb2)
    have hb2b:=(hb2.block wr.heap.size (by simp)).trans (heap_alloc_new wr _)
    have z2:wr.heap.size<w2.heap.size:=(Array.getElem?_eq_some_iff.1 hb2b).1
    have d0:=cell_of_row w2 _ 0 _ _ _ hb2b
    have d1:=cell_of_row w2 _ 1 _ _ _ hb2b
    have d2:=cell_of_row w2 _ 2 _ _ _ hb2b
    have q0':=HB2.out.c 0 _ rfl
    clear hb2 hb2b
    go_wp2
    go_ret
    exact⟨aG HX.out.symm,HB2.out.below⟩
   have f1:(Gm.find (Gm.names G.ts) nm != (k:Int))=false:=by simpa using c1
   have C1:=aA c1
   clear c1
   by_cases c2:0≤lv
   case neg =>
    have HX:Hid (Gm.terms G.ts=false):=aA (zaF hlt (by rw[QT.out];unfold Gm.term1;simp[c2]))
    have f2:=Int.not_le.1 c2
    clear c2
    go_wp2_with fail
    refine(HNM.out _).mono ?_;rintro _ _ ⟨rfl,rfl⟩
    go_wp2_with fail
    refine(HTM.out _ (HB.out.alloc _)).mono ?_;rintro _ w2 ⟨rfl,hb2⟩
    have HB2:=aA ((HB.out.alloc _).on hb2)
    have hb2b:=(hb2.block wr.heap.size (by simp)).trans (heap_alloc_new wr _)
    have z2:wr.heap.size<w2.heap.size:=(Array.getElem?_eq_some_iff.1 hb2b).1
    have d0:=cell_of_row w2 _ 0 _ _ _ hb2b
    have d1:=cell_of_row w2 _ 1 _ _ _ hb2b
    have d2:=cell_of_row w2 _ 2 _ _ _ hb2b
    have q0':=HB2.out.c 0 _ rfl
    clear hb2 hb2b
    go_wp2
    go_ret
    exact⟨aG HX.out.symm,HB2.out.below⟩
   by_cases c3:lv≤24
   case neg =>
    have HX:Hid (Gm.terms G.ts=false):=aA (zaF hlt (by rw[QT.out];unfold Gm.term1;simp[c3]))
    have f3:=Int.not_le.1 c3
    clear c3
    go_wp2_with fail
    refine(HNM.out _).mono ?_;rintro _ _ ⟨rfl,rfl⟩
    go_wp2_with fail
    refine(HTM.out _ (HB.out.alloc _)).mono ?_;rintro _ w2 ⟨rfl,hb2⟩
    have HB2:=aA ((HB.out.alloc _).on hb2)
    have hb2b:=(hb2.block wr.heap.size (by simp)).trans (heap_alloc_new wr _)
    have z2:wr.heap.size<w2.heap.size:=(Array.getElem?_eq_some_iff.1 hb2b).1
    have d0:=cell_of_row w2 _ 0 _ _ _ hb2b
    have d1:=cell_of_row w2 _ 1 _ _ _ hb2b
    have d2:=cell_of_row w2 _ 2 _ _ _ hb2b
    have q0':=HB2.out.c 0 _ rfl
    clear hb2 hb2b
    go_wp2
    go_ret
    exact⟨aG HX.out.symm,HB2.out.below⟩
   by_cases c4:0≤wy
   case neg =>
    have HX:Hid (Gm.terms G.ts=false):=aA (zaF hlt (by rw[QT.out];unfold Gm.term1;simp[c4]))
    have f4:=Int.not_le.1 c4
    clear c4
    go_wp2_with fail
    refine(HNM.out _).mono ?_;rintro _ _ ⟨rfl,rfl⟩
    go_wp2_with fail
    refine(HTM.out _ (HB.out.alloc _)).mono ?_;rintro _ w2 ⟨rfl,hb2⟩
    have HB2:=aA ((HB.out.alloc _).on hb2)
    have hb2b:=(hb2.block wr.heap.size (by simp)).trans (heap_alloc_new wr _)
    have z2:wr.heap.size<w2.heap.size:=(Array.getElem?_eq_some_iff.1 hb2b).1
    have d0:=cell_of_row w2 _ 0 _ _ _ hb2b
    have d1:=cell_of_row w2 _ 1 _ _ _ hb2b
    have d2:=cell_of_row w2 _ 2 _ _ _ hb2b
    have q0':=HB2.out.c 0 _ rfl
    clear hb2 hb2b
    go_wp2
    go_ret
    exact⟨aG HX.out.symm,HB2.out.below⟩
   by_cases c5:wy≤3
   case neg =>
    have HX:Hid (Gm.terms G.ts=false):=aA (zaF hlt (by rw[QT.out];unfold Gm.term1;simp[c5]))
    have f5:=Int.not_le.1 c5
    clear c5
    go_wp2_with fail
    refine(HNM.out _).mono ?_;rintro _ _ ⟨rfl,rfl⟩
    go_wp2_with fail
    refine(HTM.out _ (HB.out.alloc _)).mono ?_;rintro _ w2 ⟨rfl,hb2⟩
    have HB2:=aA ((HB.out.alloc _).on hb2)
    have hb2b:=(hb2.block wr.heap.size (by simp)).trans (heap_alloc_new wr _)
    have z2:wr.heap.size<w2.heap.size:=(Array.getElem?_eq_some_iff.1 hb2b).1
    have d0:=cell_of_row w2 _ 0 _ _ _ hb2b
    have d1:=cell_of_row w2 _ 1 _ _ _ hb2b
    have d2:=cell_of_row w2 _ 2 _ _ _ hb2b
    have q0':=HB2.out.c 0 _ rfl
    clear hb2 hb2b
    go_wp2
    go_ret
    exact⟨aG HX.out.symm,HB2.out.below⟩
   by_cases c6:((lv==0)==(wy==0))=true
   case neg =>
    have c6':=Bool.eq_false_iff.2 c6
    have HX:Hid (Gm.terms G.ts=false):=aA (zaF hlt (by rw[QT.out];unfold Gm.term1;simp[c6']))
    obtain⟨b6,e5,e6⟩:∃b:Bool,(lv==0)=b∧(wy==0) = !b:=⟨(lv==0),rfl,by revert c6';cases (lv==0) <;> cases (wy==0) <;> simp⟩
    clear c6 c6'
    go_wp2_with fail
    refine(HNM.out _).mono ?_;rintro _ _ ⟨rfl,rfl⟩
    go_wp2_with fail
    refine(HTM.out _ (HB.out.alloc _)).mono ?_;rintro _ w2 ⟨rfl,hb2⟩
    have HB2:=aA ((HB.out.alloc _).on hb2)
    have hb2b:=(hb2.block wr.heap.size (by simp)).trans (heap_alloc_new wr _)
    have z2:wr.heap.size<w2.heap.size:=(Array.getElem?_eq_some_iff.1 hb2b).1
    have d0:=cell_of_row w2 _ 0 _ _ _ hb2b
    have d1:=cell_of_row w2 _ 1 _ _ _ hb2b
    have d2:=cell_of_row w2 _ 2 _ _ _ hb2b
    have q0':=HB2.out.c 0 _ rfl
    clear hb2 hb2b
    go_wp2
    go_ret
    exact⟨aG HX.out.symm,HB2.out.below⟩
   obtain⟨b6,e5,e6⟩:∃b:Bool,(lv==0)=b∧(wy==0)=b:=⟨(lv==0),rfl,by revert c6;cases (lv==0) <;> cases (wy==0) <;> simp⟩
   have C6:=aA c6
   clear c6
   go_wp2_with fail
   refine(HNM.out _).mono ?_;rintro _ _ ⟨rfl,rfl⟩
   go_wp2_with fail
   refine(HTM.out _ (HB.out.alloc _)).mono ?_;rintro _ w2 ⟨rfl,hb2⟩
   have HB2:=aA ((HB.out.alloc _).on hb2)
   have hb2b:=(hb2.block wr.heap.size (by simp)).trans (heap_alloc_new wr _)
   have z2:wr.heap.size<w2.heap.size:=(Array.getElem?_eq_some_iff.1 hb2b).1
   have d0:=cell_of_row w2 _ 0 _ _ _ hb2b
   have d1:=cell_of_row w2 _ 1 _ _ _ hb2b
   have d2:=cell_of_row w2 _ 2 _ _ _ hb2b
   have q0':=HB2.out.c 0 _ rfl
   have HBK:Hid (w2.heap[wr.heap.size]?=some (.cells #[.string (K.str nm),.int .i64 lv,.int .i64 wy] 51 (0,0))):=aA hb2b
   clear hb2 hb2b
   go_wp2
   obtain⟨wo,hwo⟩:∃x:World,x=wr:=⟨_,rfl⟩
   subst hwo
   go_loopw [5] (fun vn wr=>∃(j:Nat),1≤j∧j≤25∧vn=.int .i64 j∧LvOk G.ts j∧One w #[.slice (some ⟨g,o,none⟩) G.ts.length cT,.slice AN G.ns.length cN,.slice AR G.rs.length cR,.int .i64 G.st] wr∧Hid (wr.heap[wo.heap.size]?=some (.cells #[.string (K.str nm),.int .i64 lv,.int .i64 wy] 51 (0,0)))) (fun vn _=>30-(intOf vn).toNat)
   case atStart=>exact⟨1,by omega,by omega,rfl,fun m h=>by omega,HB2.out,HBK⟩
   case round =>
    clear q0 q0' q1 q2 q3 k0 k1 k2 d0 d1 d2 z2 hz HBK HB2 HB
    obtain⟨j,hj1,hj2,rfl,HL,hb,HBK⟩:=hrel
    have HL:=aA HL
    have HB:=aA hb
    have q0:=hb.c 0 _ rfl
    have q1:=hb.c 1 _ rfl
    have q2:=hb.c 2 _ rfl
    have q3:=hb.c 3 _ rfl
    have hz:w.heap.size<wr.heap.size:=hb.size
    have z2:wo.heap.size<wr.heap.size:=(Array.getElem?_eq_some_iff.1 HBK.out).1
    have d1:=cell_of_row wr _ 1 _ _ _ HBK.out
    clear hb
    by_cases hjl:(j:Int)≤lv
    ·have HC:=aA (HLV.out (j:Int) _ HB.out)
     cases q:Gm.lev (j:Int) G.ts 0
     ·have HX:Hid (Gm.terms G.ts=false):=aA (zaF hlt (by
       rw[QT.out];unfold Gm.term1
       rw[Bool.and_eq_false_iff]
       refine .inr (decide_eq_false fun hall=>?_)
       have:=hall (j-1) (by simp only;omega)
       rw[show j-1+1=j by omega,q]at this
       cases this))
      rw[q]at HC
      clear q
      go_wp2_with fail
      refine HC.out.mono ?_;rintro _ w3 ⟨rfl,hb3⟩
      have HB3:=aA (HB.out.on hb3)
      clear hb3
      go_wp2
      go_ret
      exact⟨aG HX.out.symm,HB3.out.below⟩
     ·rw[q]at HC
      have HL2:Hid (LvOk G.ts (j+1)):=aA (fun m h=>by
       rcases Nat.lt_or_ge (m+1) j with h1|h1
       ·exact HL.out m h1
       ·obtain rfl:j=m+1:=by omega
        exact q)
      clear q
      go_wp2_with fail
      refine HC.out.mono ?_;rintro _ w3 ⟨rfl,hb3⟩
      have HB3:=aA (HB.out.on hb3)
      have HK3:Hid (w3.heap[wo.heap.size]?=some (.cells #[.string (K.str nm),.int .i64 lv,.int .i64 wy] 51 (0,0))):=aA ((hb3.block wo.heap.size z2).trans HBK.out)
      clear hb3
      go_wp2
      go_roundw
      case rel=>exact⟨j+1,by omega,by omega,by go_num,HL2.out,HB3.out,HK3⟩
      case measure=>simp[intOf];omega
    ·have HX:Hid (zkJ G.ts (k+1)):=aA (HE.out.next hlt (by
      rw[QT.out];unfold Gm.term1
      simp only[Bool.and_eq_true,decide_eq_true_eq,beq_iff_eq]
      exact⟨⟨⟨⟨⟨⟨⟨C0.out,C1.out⟩,c2⟩,c3⟩,c4⟩,c5⟩,beq_iff_eq.1 C6.out⟩,fun n hn=>HL.out n (by omega)⟩))
     go_wp2
     go_roundw
     case rel=>exact⟨k+1,by omega,by go_num,HX.out,HB.out⟩
     case measure=>simp[intOf];omega
  ·obtain rfl:k=G.ts.length:=by omega
   have HX:=aA (HE.out.all (by omega))
   clear hbw
   go_wp2
   go_ret
   exact⟨aG HX.out.symm,HB.out.below⟩
end Go.Proofs.YtkfelkpilaipnaaGreatDoor
