/- Part of the proofs over this program: Ref8G, Ref8D, Ref7S, Ref7O. -/
import Derived.Test.YtcmhaemaophplaaGreatVF
namespace Go.Proofs.YtcmhaemaophplaaGreat
set_option maxRecDepth 100000
set_option maxHeartbeats 40000000
open Go.RowKit
theorem Y.is_two (a:Int) (ts:List Tok):Y.is [a,a] ts=Y.is [a] ts:=by
 cases ts with
 | nil=>rfl
 | cons t r =>
  show [a,a].contains t.k=[a].contains t.k
  rw[Bool.eq_iff_iff];simp
theorem Rd8.row {L:List Int} {B R px py:Nat} {w w':World} {ts:List Tok} (h:Rd8 L B R px py w ts) (hg:w.grownBy w' .none):Rd8 L B R px py w' ts:=h.grown hg (fun _ e=>by cases e)
theorem Rd8.drew {L:List Int} {B R px py:Nat} {w:World} {ts:List Tok} (h:Rd8 L B R px py w ts):Rd8 L B R px py w.drew ts:=h
theorem Rd8.len {L:List Int} {B R px py:Nat} {w:World} {ts:List Tok} (h:Rd8 L B R px py w ts):ts.length<=4000:=by obtain⟨_,_,_,_,h,_⟩:=h;exact h
theorem zcq (L:List Int) (B R px py:Nat) (ts:List Tok) (a b:Int) (w:World) (hr:Rd8 L B R px py w ts) (t:Tok) (r:List Tok) (hk:Y.take [a,b] ts=.ok t r) :
  Calls Tryz.prog 90 #[.pointer (some ⟨R,0,none⟩),.int .i64 a,.int .i64 b] w fun e w'=>e=.returned (bO L t)/\w.grownBy w' (some R)/\Rd8 L B R px py w' r:=by
 obtain⟨rfl,h⟩:=Y.take_ok hk;exact zed L B R px py t r a b w hr h
theorem zbH (a:Int) (ts:List Tok):Y.take [a,a] ts=Y.take [a] ts:=by
 cases ts with
 | nil=>rfl
 | cons t r =>
  have h:([a,a]:List Int).contains t.k=[a].contains t.k:=Y.is_two a (t::r);rw[Y.take_cons,Y.take_cons,h]
def zlz (L:List Int) (t:Tok):Obj:=.cells #[.string (K.str t.t),.complex .f64 (Fl.fl (Pl.pos (L.take t.o)).1) (Fl.fl (Pl.pos (L.take t.o)).2)] 127 (0,0)
theorem zan {w:World} {base:Nat} {e:TypeId} {size n:Nat} {v:Value} {xs:List Value} (h:w.ownsRow base e size v n xs) {R:Nat} (hR:R<base):v.ownBlock=none\/v.ownBlock≠some R:=by
 rcases hv:v.ownBlock with _|k
 ·exact .inl rfl
 ·have:=(World.ownsRow.lt h k hv).1
  exact .inr (fun e=>by injection e with e;omega)
theorem bF.alloc5 {L:List Int} {w:World} {base:Nat} {v:Value} {ps:List Y.Prd} (h:bF L w base v ps) (o:Obj):bF L (w.alloc o) base v ps:=h.grown (aG (World.grownBy.refl _ _) o) (zjH.none _ _)
theorem zfz {L:List Int} {w:World} {g c:Nat} {A:Option Addr} {left pt:Tok} {rs:List Tok} (h:w.heap[g]?=some (.cells (aV L ⟨left,rs,none⟩ A c).toArray 135 (0,0))) (u3 u4:Value) (h3:u3=.string (K.str pt.t)) (h4:u4=.complex .f64 (Fl.fl (Pl.pos (L.take pt.o)).1) (Fl.fl (Pl.pos (L.take pt.o)).2)) :
  ((w.setCell ⟨g,3,none⟩ u3).setCell ⟨g,4,none⟩ u4).heap[g]?=some (.cells (aV L ⟨left,rs,some pt⟩ A c).toArray 135 (0,0)):=by
 subst h3 h4;have h3:=heap_setCell_same w g 3 _ _ (.string (K.str pt.t)) h;rw[heap_setCell_same _ g 4 _ _ _ h3];rfl
theorem zbI {w w':World} {g base:Nat} {cs:Array Value} {size n:Nat} {v:Value} {xs:List Value} (h:w.heap[g]?=some (.cells cs 127 (0,0))) (o:Obj) (ho:(w.alloc o).ownsRow base 135 size v n xs) (hg:(w.alloc o).grownBy w' v.ownBlock):w'.heap[g]?=some (.cells cs 127 (0,0)):=by
 have h1:(w.alloc o).heap[g]?=some (.cells cs 127 (0,0)):=(((Below.refl _ w).alloc (Nat.le_refl _) o).block g (Array.getElem?_eq_some_iff.1 h).1).trans h;exact zgO h1 hg (zaq ho (by decide))
theorem zjo (L:List Int) (B R px py:Nat) (ts:List Tok) (ps:List Y.Prd) (r:List Tok) (w:World) (hr:Rd8 L B R px py w ts) (hy:Y.group [] ts=.ok ps r) :
  Calls Tryz.prog 91 #[.pointer (some ⟨R,0,none⟩)] w fun e w'=>w.grownBy w' (some R)/\∃v,e=.returned v/\bF L w' w.heap.size v ps/\Rd8 L B R px py w' r:=by
 have HR:=aA hr;have hRlt:=hr.lt;have HLN:=aA hr.len;unfold Y.group at hy;obtain⟨left,m,h1,hy⟩:=Y.bind_eq_ok hy;obtain⟨t10,m2,h2,hy⟩:=Y.bind_eq_ok hy;have HT1:=aA (zcq L B R px py ts 1 1 w hr left m ((zbH 1 ts).trans h1));have HT2:=aA (fun(x:World) (h:Rd8 L B R px py x m)=>zcq L B R px py m 10 10 x h t10 m2 ((zbH 10 m).trans h2));have HY:=aA hy;have SC:=fun a w m X Y=>show(store a (.complex .f64 X Y) m).run Tryz.prog w=stored Tryz.prog w a (.complex .f64 X Y) m from run_store _ w a _ m rfl;clear hr h1 h2 hy;unfold bO at HT1 HT2
 go_enter Tryz.func91,Tryz.ntmps91
 go_wp2_with fail
 refine HT1.o.mono ?_;rintro _ w2 ⟨rfl,hg2,hr2⟩;have HG2:=aA hg2;have HR2:=aA (hr2.alloc (.cells #[.string (K.str left.t),.complex .f64 (Fl.fl (Pl.pos (L.take left.o)).1) (Fl.fl (Pl.pos (L.take left.o)).2)] 127));have hs2:=hg2.size;clear hg2 hr2;go_wp2_with fail
 refine(HT2.o _ HR2.o).mono ?_;rintro _ w3 ⟨rfl,hg3,hr3⟩;have HG3:=aA ((aG HG2.o (.cells #[.string (K.str left.t),.complex .f64 (Fl.fl (Pl.pos (L.take left.o)).1) (Fl.fl (Pl.pos (L.take left.o)).2)] 127)).trans hg3);have HR3:=aA hr3;have HB3:Hid (w3.heap[w2.heap.size]?=some (zlz L left)):=aA (zcH hg3 (by omega));have hs3:w2.heap.size+1<=w3.heap.size:=by have:=hg3.size;simpa using this
 clear hg3 hr3;go_wp2_with fail
 go_loopw [3] (fun v wr=>∃(acc:List Y.Prd) (rest:List Tok) (f:Nat),Hid (Y.alts f left acc rest=.ok ps r)/\rest.length<f/\bF L wr w.heap.size v acc/\Rd8 L B R px py wr rest/\w.grownBy wr (some R)/\wr.heap[w2.heap.size]?=some (zlz L left)/\acc.length+rest.length<=4000) (fun v _=>4001-zch v)
 case atStart=>exact⟨[],m2,m2.length+1,HY,by omega,bF.nil _ _ _,HR3.o,HG3.o,HB3.o,by have:=HR3.o.len;simpa using this⟩
 case round =>
  clear HT1 HT2 HR2 HG2 HR3 HB3 HG3 HR HY;obtain⟨acc,rest,f,HY,hf,ho,hr,hg,hb,hl⟩:=hrel;have HO:=aA ho;have HR:=aA hr;have HG:=aA hg;have HB:=aA hb;obtain⟨Aa,ca,rfl,_,_⟩:=ho.form;obtain⟨f,rfl⟩:∃f',f=f'+1:=⟨f-1,by omega⟩
  have hY:=HY.o;rw[Y.alts]at hY;obtain⟨p,m3,hp,hY⟩:=Y.bind_eq_ok hY;obtain⟨t,m4,ht,hY⟩:=Y.bind_eq_ok hY;obtain⟨Ax,cx,hx0,hx3,_⟩:=hr.cell0;have HP:=aA hp;have HT:=aA ht;have HYY:=aA hY;clear ho hr hg hb hp ht hY;go_upto_region 5 with fail
  go_cut [5] (fun s5 wx=>∃g A c,s5=.pointer (some ⟨g,0,none⟩)/\wr.heap.size<=g/\wx.heap[g]?=some (.cells (aV L ⟨left,rest.takeWhile Y.isRef,none⟩ A c).toArray 135 (0,0))/\RdR L wx w.heap.size A (rest.takeWhile Y.isRef)/\Rd8 L B R px py wx (rest.dropWhile Y.isRef)/\wr.grownBy wx (some R))
  case first =>
   have hne:w2.heap.size≠R:=by omega
   have CL0:=fun y:Calm.OnR R wr=>(show y.1.cell? ⟨w2.heap.size,0,none⟩=some (.string (K.str left.t)) by rw[cell_of_row y.1 _ 0 _ _ _ (zad y.2 HB.o hne)];rfl)
   have CL1:=fun y:Calm.OnR R wr=>(show y.1.cell? ⟨w2.heap.size,1,none⟩=some (.complex .f64 (Fl.fl (Pl.pos (L.take left.o)).1) (Fl.fl (Pl.pos (L.take left.o)).2)) by rw[cell_of_row y.1 _ 1 _ _ _ (zad y.2 HB.o hne)];rfl)
   have hd1:wr.grownBy wr.drew (some R):=aH wr _;have hRw:R<wr.heap.size:=HR.o.lt;have hsw:w.heap.size<=wr.heap.size:=HG.o.size;refine Calm.region_tree (fun x=>∃y:Calm.OnR R wr,x=y.1) (.two [0,1] 2 (.one [3] 4 (.one [] 5 (.fin []))) 4 (.one [] 2 (.one [3] 5 (.fin [])))) (by kernel_rfl) (by kernel_rfl) (fun _ _ d _ _ h=>by cases d <;> exact h) ⟨⟨wr.drew,hd1⟩,rfl⟩ ?_;simp only[Calm.wpT,Calm.wpSt,Calm.pickOps,List.getElem?_toArray,List.getElem?_cons_zero,List.getElem?_cons_succ];repeat (go_big_quiet_step (fail))
   refine wpQuiet_nil ?_;have HRF:=aA (fun(x:World) (hx:Rd8 L B R px py x rest)=>zj0 L B R px py rest x hx);refine⟨?_,?_⟩
   ·intro KK hKK;rw[if_pos (by rfl)];go_wp2_with fail
    refine(HRF.o _ HR.o.drew).mono ?_;rintro _ w4 ⟨hg4,v,rfl,ho,hrd⟩;obtain⟨A,c,rfl,hc1,hc2,hrr⟩:=ho.rd;have hg:wr.grownBy w4 (some R):=hd1.trans hg4;clear ho hg4 hc1 hc2;go_wp2_with fail
    refine hKK _ _ ⟨⟨w4,hg⟩,rfl⟩ (fun x=>∃y:Calm.OnR R wr,x=y.1) (fun _ h=>h) ⟨⟨w4,hg⟩,rfl⟩ ?_;repeat (go_big_quiet_step (fail))
    refine wpQuiet_nil ?_;intro KK hKK;rw[if_pos (by rfl)];go_wp2_with fail
    refine hKK _ _ ⟨⟨_,aG hg _⟩,rfl⟩ (fun x=>∃y:Calm.OnR R wr,x=y.1) (fun _ h=>h) ⟨⟨_,aG hg _⟩,rfl⟩ ?_;repeat (go_big_quiet_step (fail))
    refine wpQuiet_nil ?_;intro KK hKK;try rw[if_pos (by rfl)]
    go_wp2_with fail
    refine hKK _ _ ⟨⟨_,aG hg _⟩,rfl⟩ (fun x=>∃y:Calm.OnR R wr,x=y.1) (fun _ h=>h) ⟨⟨_,aG hg _⟩,rfl⟩ ?_;refine wpQuiet_nil ?_;go_wp2_with fail
    go_meet
    case rel =>
     refine⟨w4.heap.size,A,c,rfl,hg.size,heap_alloc_new _ _,(hrr.less hsw).grown (aG (World.grownBy.refl _ _) _) (aY.none _),hrd.alloc _,aG hg _⟩
   ·intro KK hKK;rw[if_pos (by rfl)];go_wp2_with fail
    obtain⟨w4,hw4⟩:∃x,x=(wr.alloc (.cells #[.string ⟨#[]⟩,.complex .f64 0 0,.slice none 0 0,.string ⟨#[]⟩,.complex .f64 0 0] 135)).drew:=⟨_,rfl⟩
    rw[<-hw4];have hg4:wr.grownBy w4 .none:=by rw[hw4];exact(aG (World.grownBy.refl _ _) _).trans (aH _ _)
    have hb4:w4.heap[wr.heap.size]?=some (.cells #[.string ⟨#[]⟩,.complex .f64 0 0,.slice none 0 0,.string ⟨#[]⟩,.complex .f64 0 0] 135 (0,0)):=by rw[hw4];exact heap_alloc_new wr _
    have hr4:=HR.o.row hg4;clear hw4;refine hKK _ _ ⟨⟨w4,hg4.row _⟩,rfl⟩ (fun x=>∃y:Calm.OnR R wr,x=y.1) (fun _ h=>h) ⟨⟨w4,hg4.row _⟩,rfl⟩ ?_;refine wpQuiet_nil ?_;intro KK hKK;try rw[if_pos (by rfl)]
    go_wp2_with fail
    refine(HRF.o _ hr4).mono ?_;rintro _ w5 ⟨hg5,v,rfl,ho,hrd⟩;obtain⟨A,c,rfl,hc1,hc2,hrr⟩:=ho.rd;have hg:wr.grownBy w5 (some R):=(hg4.row _).trans hg5;have hb5:=zad hg5 hb4 (by omega);clear ho hc1 hc2;go_wp2_with fail
    refine hKK _ _ ⟨⟨w5,hg⟩,rfl⟩ (fun x=>∃y:Calm.OnR R wr,x=y.1) (fun _ h=>h) ⟨⟨w5,hg⟩,rfl⟩ ?_;repeat (go_big_quiet_step (fail))
    refine wpQuiet_nil ?_;intro KK hKK;try rw[if_pos (by rfl)]
    have c0:=cell_of_row w5 _ 0 _ _ _ hb5;have c1:=cell_of_row w5 _ 1 _ _ _ hb5;have c2:=cell_of_row w5 _ 2 _ _ _ hb5;have c3:=cell_of_row w5 _ 3 _ _ _ hb5;have c4:=cell_of_row w5 _ 4 _ _ _ hb5;have f0:=frozen_of_row w5 _ 0 _ _ hb5;have f1:=frozen_of_row w5 _ 1 _ _ hb5;have f2:=frozen_of_row w5 _ 2 _ _ hb5;have f3:=frozen_of_row w5 _ 3 _ _ hb5;have f4:=frozen_of_row w5 _ 4 _ _ hb5;go_wp2_with fail
    have HGE:=aA (fun u0 u1 u2 u3 u4=>zaR (zaR (zaR (zaR (zaR hg wr.heap.size 0 u0 (Nat.le_refl _)) wr.heap.size 1 u1 (Nat.le_refl _)) wr.heap.size 2 u2 (Nat.le_refl _)) wr.heap.size 3 u3 (Nat.le_refl _)) wr.heap.size 4 u4 (Nat.le_refl _));refine hKK _ _ ⟨⟨_,HGE.o _ _ _ _ _⟩,rfl⟩ (fun x=>∃y:Calm.OnR R wr,x=y.1) (fun _ h=>h) ⟨⟨_,HGE.o _ _ _ _ _⟩,rfl⟩ ?_;refine wpQuiet_nil ?_;go_wp2_with fail
    go_meet
    case rel =>
     refine⟨wr.heap.size,A,c,rfl,Nat.le_refl _,zkX hb5 _ _ _ _ _,(hrr.less (by have:=hg4.size;omega)).grown (aF (aF (aF (aF (aF (World.grownBy.refl _ _) _ _) _ _) _ _) _ _) _ _) (zbK hb5 (by decide)),((((hrd.far _ _ _ hRw).far _ _ _ hRw).far _ _ _ hRw).far _ _ _ hRw).far _ _ _ hRw,HGE.o _ _ _ _ _⟩
  case rest =>
   obtain⟨g,A,c,rfl,hgw,hbk,hrr,hrd,hgr⟩:=hcut;have HBK:=aA hbk;have HRR:=aA hrr;have HRD:=aA hrd;have HGR:=aA hgr;have hRw:R<wr.heap.size:=HR.o.lt;have HNE:Hid (g≠R):=aA (by omega);have HNL:Hid (R<g):=aA (by omega);have HNG:Hid (wr.heap.size<=g):=aA hgw;have HNR:Hid ((Value.slice Aa acc.length ca).ownBlock=none\/(Value.slice Aa acc.length ca).ownBlock≠some R):=aA (by obtain⟨zs,hown⟩:=HO.o.own;exact zan hown hRlt);have HRU:Hid (Y.rule left rest=Y.rule2 left (rest.takeWhile Y.isRef) (rest.dropWhile Y.isRef)):=aA rfl;have HLR:Hid ((rest.dropWhile Y.isRef).length<=rest.length):=aA ((List.dropWhile_sublist _).length_le);clear hbk hrr hrd hgr;generalize rest.takeWhile Y.isRef=rs at *;generalize rest.dropWhile Y.isRef=rest2 at *;have HIS:=aA (is8 L B R px py rest2 8 8 wc HRD.o);rw[Y.is_two]at HIS;rcases hb:Y.is [8] rest2 with _|_
   ·rw[hb]at HIS;have HP2:Hid (p=⟨left,rs,none⟩/\m3=rest2):=aA (by have h:=HP.o;rw[HRU.o]at h;unfold Y.rule2 at h;rw[hb]at h;rw[if_neg (by simp)]at h;injection h with h1 h2;exact⟨h1.symm,h2.symm⟩);obtain⟨hp1,hp2⟩:=HP2.o;have HBg:Hid (wc.heap[g]?=some (.cells (aV L p A c).toArray 135 (0,0))):=aA (by rw[hp1];exact HBK.o);have HRDx:Hid (Rd8 L B R px py wc m3):=aA (by rw[hp2];exact HRD.o);have HRRx:Hid (RdR L wc w.heap.size A p.r):=aA (by rw[hp1];exact HRR.o);have HGRx:=HGR;have HM3:Hid (m3.length<=rest.length):=aA (by rw[hp2];exact HLR.o);clear hp1 hp2 HBK HRR;go_wp2_with fail
    refine HIS.o.mono ?_;rintro _ _ ⟨rfl,rfl⟩;have HAP:=aA (HO.o.grown HGRx.o ⟨HR.o.other,HNR.o⟩);have HL9:Hid (acc.length<=4000):=aA (by omega);obtain⟨x3,x4,hx34⟩:=zby L p.p;have HPC:=aA (show aV L p A c=[.string (K.str p.l.t),.complex .f64 (Fl.fl (Pl.pos (L.take p.l.o)).1) (Fl.fl (Pl.pos (L.take p.l.o)).2),.slice A p.r.length c,x3,x4] by unfold aV;rw[hx34];rfl);have hbg:=HBg.o;rw[HPC.o]at hbg;have g0:wc.cell? ⟨g,0,none⟩=some (.string (K.str p.l.t)):=by rw[cell_of_row wc g 0 _ _ _ hbg];rfl
    have g1:wc.cell? ⟨g,1,none⟩=some (.complex .f64 (Fl.fl (Pl.pos (L.take p.l.o)).1) (Fl.fl (Pl.pos (L.take p.l.o)).2)):=by rw[cell_of_row wc g 1 _ _ _ hbg];rfl
    have g2:wc.cell? ⟨g,2,none⟩=some (.slice A p.r.length c):=by rw[cell_of_row wc g 2 _ _ _ hbg];rfl
    have g3:wc.cell? ⟨g,3,none⟩=some x3:=by rw[cell_of_row wc g 3 _ _ _ hbg];rfl
    have g4:wc.cell? ⟨g,4,none⟩=some x4:=by rw[cell_of_row wc g 4 _ _ _ hbg];rfl
    have HCE:=aA (fun j u (hj:(aV L p A c)[j]?=some u)=>(aL wc [.string (K.str p.l.t),.complex .f64 (Fl.fl (Pl.pos (L.take p.l.o)).1) (Fl.fl (Pl.pos (L.take p.l.o)).2),.slice A p.r.length c,x3,x4] 135 j).trans (HPC.o▸hj));have HSx:Hid (w.heap.size<=wc.heap.size):=aA (by have h1:=HG.o.size;have h2:=HGRx.o.size;omega);have HIS9:=aA (fun(x:World) (h:Rd8 L B R px py x m3)=>is8 L B R px py m3 11 11 x h);have HGL:=aA (HG.o.trans HGRx.o);have hbB:=zad HGRx.o HB.o (by omega);have HBB:=aA hbB;clear hbg hx34 HBg hbB;obtain⟨zs,hown⟩:=(HAP.o.alloc5 (.cells #[.string (K.str p.l.t),.complex .f64 (Fl.fl (Pl.pos (L.take p.l.o)).1) (Fl.fl (Pl.pos (L.take p.l.o)).2),.slice A p.r.length c,x3,x4] 135)).own;have HWN:=aA hown;clear hown;rcases hk11:Y.is [11] m3 with _|_
    ·have HK:=aA hk11;rw[Y.is_two,hk11]at HIS9;obtain⟨rfl,hk⟩:=Y.take_ok HT.o
     have hk2:t.k=12:=by
      have h1:[(11:Int)].contains t.k=false:=hk11;simp at h1 hk;omega
     have HTT:=aA (fun(x:World) (h:Rd8 L B R px py x (t::m4))=>zed L B R px py t m4 12 12 x h (by show [(12:Int),12].contains t.k=true;rw[hk2];rfl));have HFIN:Hid (acc++[p]=ps/\m4=r):=aA (by have h:=HYY.o;rw[if_neg (by rw[hk2];decide)]at h;injection h with h1 h2;exact⟨h1,h2⟩);unfold bO at HTT;clear hk11 hk hk2;go_wp2_with (at_builtin;(refine zdg rfl (.tmp 26) (.tmp 28) _ rfl Tryz.underlying94 L w.heap.size _ acc rfl (HAP.o.alloc5 _) wc.heap.size 1 p A c rfl HCE.o (HRRx.o.grown (aG (World.grownBy.refl _ _) _) (aY.none _)) (by have:=HL9.o;omega) (by have:=HSx.o;simp;omega) ?_;intro v9 w9 ho9 hg9))
     have HRD9:=aA ((HRDx.o.alloc (.cells #[.string (K.str p.l.t),.complex .f64 (Fl.fl (Pl.pos (L.take p.l.o)).1) (Fl.fl (Pl.pos (L.take p.l.o)).2),.slice A p.r.length c,x3,x4] 135)).own HWN.o hg9 hRlt);have HG9:=aA (zae (aG HGL.o (.cells #[.string (K.str p.l.t),.complex .f64 (Fl.fl (Pl.pos (L.take p.l.o)).1) (Fl.fl (Pl.pos (L.take p.l.o)).2),.slice A p.r.length c,x3,x4] 135)) HWN.o hg9);obtain⟨A9,c9,hv9,_,_⟩:=ho9.form;rw[show(acc++[p]).length=acc.length+1 by simp]at hv9;subst hv9;have HO9:=aA ho9;have HB9:=aA ((zbI HBB.o (.cells #[.string (K.str p.l.t),.complex .f64 (Fl.fl (Pl.pos (L.take p.l.o)).1) (Fl.fl (Pl.pos (L.take p.l.o)).2),.slice A p.r.length c,x3,x4] 135) HWN.o hg9));obtain⟨z9,hown9⟩:=ho9.own;have HW9:=aA hown9;clear ho9 hg9 hown9;go_wp2_with fail
     refine(HIS9.o _ HRD9.o).mono ?_;rintro _ _ ⟨rfl,rfl⟩;go_wp2_with fail
     refine(HTT.o _ HRD9.o).mono ?_;rintro _ w10 ⟨rfl,hg10,hr10⟩;have HGF:=aA (HG9.o.trans hg10);have HOF:=aA (HO9.o.grown hg10 ⟨HRD9.o.other,zan HW9.o (by omega)⟩);have HRF:=aA hr10;clear hg10 hr10;go_wp2;go_ret
     refine⟨HGF.o,_,rfl,?_,?_⟩
     ·rw[<-HFIN.o.1];exact HOF.o
     ·rw[<-HFIN.o.2];exact HRF.o
    ·have HK:=aA hk11;rw[Y.is_two,hk11]at HIS9;obtain⟨rfl,hk⟩:=Y.take_ok HT.o
     have hk2:t.k=11:=by
      have h1:[(11:Int)].contains t.k=true:=hk11
      simpa using h1
     have HTT:=aA (fun(x:World) (h:Rd8 L B R px py x (t::m4))=>zed L B R px py t m4 11 11 x h (by show [(11:Int),11].contains t.k=true;rw[hk2];rfl));have HFIN:Hid (Y.alts f left (acc++[p]) m4=.ok ps r):=aA (by have h:=HYY.o;rwa [if_pos hk2]at h);unfold bO at HTT;clear hk11 hk hk2;go_wp2_with (at_builtin;(refine zdg rfl (.tmp 26) (.tmp 28) _ rfl Tryz.underlying94 L w.heap.size _ acc rfl (HAP.o.alloc5 _) wc.heap.size 1 p A c rfl HCE.o (HRRx.o.grown (aG (World.grownBy.refl _ _) _) (aY.none _)) (by have:=HL9.o;omega) (by have:=HSx.o;simp;omega) ?_;intro v9 w9 ho9 hg9))
     have HRD9:=aA ((HRDx.o.alloc (.cells #[.string (K.str p.l.t),.complex .f64 (Fl.fl (Pl.pos (L.take p.l.o)).1) (Fl.fl (Pl.pos (L.take p.l.o)).2),.slice A p.r.length c,x3,x4] 135)).own HWN.o hg9 hRlt);have HG9:=aA (zae (aG HGL.o (.cells #[.string (K.str p.l.t),.complex .f64 (Fl.fl (Pl.pos (L.take p.l.o)).1) (Fl.fl (Pl.pos (L.take p.l.o)).2),.slice A p.r.length c,x3,x4] 135)) HWN.o hg9);obtain⟨A9,c9,hv9,_,_⟩:=ho9.form;rw[show(acc++[p]).length=acc.length+1 by simp]at hv9;subst hv9;have HO9:=aA ho9;have HB9:=aA ((zbI HBB.o (.cells #[.string (K.str p.l.t),.complex .f64 (Fl.fl (Pl.pos (L.take p.l.o)).1) (Fl.fl (Pl.pos (L.take p.l.o)).2),.slice A p.r.length c,x3,x4] 135) HWN.o hg9));obtain⟨z9,hown9⟩:=ho9.own;have HW9:=aA hown9;clear ho9 hg9 hown9;go_wp2_with fail
     refine(HIS9.o _ HRD9.o).mono ?_;rintro _ _ ⟨rfl,rfl⟩;go_wp2_with fail
     refine(HTT.o _ HRD9.o).mono ?_;rintro _ w10 ⟨rfl,hg10,hr10⟩;have HGF:=aA (HG9.o.trans hg10);have HOF:=aA (HO9.o.grown hg10 ⟨HRD9.o.other,zan HW9.o (by omega)⟩);have HRF:=aA hr10;have HBF:=aA (zad hg10 HB9.o (by omega));clear hg10 hr10;go_wp2;go_roundw
     case rel=>exact⟨acc++[p],m4,f,HFIN,by have:=HM3.o;simp at this;omega,HOF.o,HRF.o,HGF.o,HBF.o,by have:=HM3.o;simp at this ⊢;omega⟩
     case measure=>have:=HL9.o;simp[zch];omega
   ·rw[hb]at HIS;obtain⟨t8,r8,hrest,htk8,_⟩:=Y.is_true hb;have hP3:=HP.o;rw[HRU.o]at hP3;unfold Y.rule2 at hP3;rw[hb,if_pos rfl,htk8,Y.bind_ok]at hP3;obtain⟨pt,r9,htp,hP3⟩:=Y.bind_eq_ok hP3;injection hP3 with hp1 hp2;have HP1:=aA hp1;have HTA:=aA (zcq L B R px py rest2 8 8 wc HRD.o t8 r8 ((zbH 8 rest2).trans htk8));have HTB:=aA (fun(x:World) (h:Rd8 L B R px py x r8)=>zcq L B R px py r8 1 2 x h pt r9 htp)
    have HM3:Hid (m3.length<=rest.length):=aA (by
     have h1:=(Y.take_ok htp).1;have h2:=HLR.o;rw[hrest,h1]at h2;rw[<-hp2];simp at h2
     omega)
    have HM4:Hid (r9=m3):=aA hp2;clear hrest htk8 htp hp1 hp2 hb;unfold bO at HTA HTB;go_wp2_with fail
    refine HIS.o.mono ?_;rintro _ _ ⟨rfl,rfl⟩;go_wp2_with fail
    refine HTA.o.mono ?_;rintro _ w5 ⟨rfl,hg5,hr5⟩;have HG5:=aA hg5;have HR5:=aA hr5;clear hg5 hr5;go_wp2_with fail
    refine(HTB.o _ HR5.o).mono ?_;rintro _ w6 ⟨rfl,hg6,hr6⟩;have hgr:=HG5.o.trans hg6;have hbg:=zad hgr HBK.o HNE.o;have e3:=frozen_of_row w6 g 3 _ _ hbg;have e4:=frozen_of_row w6 g 4 _ _ hbg;have d3:w6.cell? ⟨g,3,none⟩=some (.string ⟨#[]⟩):=by rw[cell_of_row w6 g 3 _ _ _ hbg];rfl
    have d4:w6.cell? ⟨g,4,none⟩=some (.complex .f64 0 0):=by rw[cell_of_row w6 g 4 _ _ _ hbg];rfl
    have HBg6:=aA hbg;have HG6:=aA (HGR.o.trans hgr);have HR6:=aA hr6;have HRR6:=aA (HRR.o.grown hgr HRD.o.other);have HOg:=aA (zbK hbg (by decide));clear hbg hg6 hr6 hgr HBK HRR;go_upto_region 9 with fail
    obtain⟨w7,hw7⟩:∃x,x=(w6.setCell ⟨g,3,none⟩ (.string (K.str pt.t))).setCell ⟨g,4,none⟩ (.complex .f64 (Fl.fl (Pl.pos (L.take pt.o)).1) (Fl.fl (Pl.pos (L.take pt.o)).2)):=⟨_,rfl⟩
    rw[<-hw7];have HBg:Hid (w7.heap[g]?=some (.cells (aV L p A c).toArray 135 (0,0))):=aA (by rw[hw7,<-HP1.o];exact zfz HBg6.o _ _ rfl rfl);have HRDx:Hid (Rd8 L B R px py w7 m3):=aA (by rw[hw7,<-HM4.o];exact(HR6.o.far _ _ _ HNL.o).far _ _ _ HNL.o);have HRRx:Hid (RdR L w7 w.heap.size A p.r):=aA (by rw[hw7,<-HP1.o];exact HRR6.o.grown (aF (aF (World.grownBy.refl _ _) _ _) _ _) HOg.o);have HGRx:Hid (wr.grownBy w7 (some R)):=aA (by rw[hw7];exact zaR (zaR HG6.o _ _ _ HNG.o) _ _ _ HNG.o);clear hw7 e3 e4 d3 d4;have HAP:=aA (HO.o.grown HGRx.o ⟨HR.o.other,HNR.o⟩);have HL9:Hid (acc.length<=4000):=aA (by omega);obtain⟨x3,x4,hx34⟩:=zby L p.p;have HPC:=aA (show aV L p A c=[.string (K.str p.l.t),.complex .f64 (Fl.fl (Pl.pos (L.take p.l.o)).1) (Fl.fl (Pl.pos (L.take p.l.o)).2),.slice A p.r.length c,x3,x4] by unfold aV;rw[hx34];rfl);have hbg:=HBg.o;rw[HPC.o]at hbg;have g0:w7.cell? ⟨g,0,none⟩=some (.string (K.str p.l.t)):=by rw[cell_of_row w7 g 0 _ _ _ hbg];rfl
    have g1:w7.cell? ⟨g,1,none⟩=some (.complex .f64 (Fl.fl (Pl.pos (L.take p.l.o)).1) (Fl.fl (Pl.pos (L.take p.l.o)).2)):=by rw[cell_of_row w7 g 1 _ _ _ hbg];rfl
    have g2:w7.cell? ⟨g,2,none⟩=some (.slice A p.r.length c):=by rw[cell_of_row w7 g 2 _ _ _ hbg];rfl
    have g3:w7.cell? ⟨g,3,none⟩=some x3:=by rw[cell_of_row w7 g 3 _ _ _ hbg];rfl
    have g4:w7.cell? ⟨g,4,none⟩=some x4:=by rw[cell_of_row w7 g 4 _ _ _ hbg];rfl
    have HCE:=aA (fun j u (hj:(aV L p A c)[j]?=some u)=>(aL w7 [.string (K.str p.l.t),.complex .f64 (Fl.fl (Pl.pos (L.take p.l.o)).1) (Fl.fl (Pl.pos (L.take p.l.o)).2),.slice A p.r.length c,x3,x4] 135 j).trans (HPC.o▸hj));have HSx:Hid (w.heap.size<=w7.heap.size):=aA (by have h1:=HG.o.size;have h2:=HGRx.o.size;omega);have HIS9:=aA (fun(x:World) (h:Rd8 L B R px py x m3)=>is8 L B R px py m3 11 11 x h);have HGL:=aA (HG.o.trans HGRx.o);have hbB:=zad HGRx.o HB.o (by omega);have HBB:=aA hbB;clear hbg hx34 HBg hbB;obtain⟨zs,hown⟩:=(HAP.o.alloc5 (.cells #[.string (K.str p.l.t),.complex .f64 (Fl.fl (Pl.pos (L.take p.l.o)).1) (Fl.fl (Pl.pos (L.take p.l.o)).2),.slice A p.r.length c,x3,x4] 135)).own;have HWN:=aA hown;clear hown;rcases hk11:Y.is [11] m3 with _|_
    ·have HK:=aA hk11;rw[Y.is_two,hk11]at HIS9;obtain⟨rfl,hk⟩:=Y.take_ok HT.o
     have hk2:t.k=12:=by
      have h1:[(11:Int)].contains t.k=false:=hk11;simp at h1 hk;omega
     have HTT:=aA (fun(x:World) (h:Rd8 L B R px py x (t::m4))=>zed L B R px py t m4 12 12 x h (by show [(12:Int),12].contains t.k=true;rw[hk2];rfl));have HFIN:Hid (acc++[p]=ps/\m4=r):=aA (by have h:=HYY.o;rw[if_neg (by rw[hk2];decide)]at h;injection h with h1 h2;exact⟨h1,h2⟩);unfold bO at HTT;clear hk11 hk hk2;go_wp2_with (at_builtin;(refine zdg rfl (.tmp 26) (.tmp 28) _ rfl Tryz.underlying94 L w.heap.size _ acc rfl (HAP.o.alloc5 _) w7.heap.size 1 p A c rfl HCE.o (HRRx.o.grown (aG (World.grownBy.refl _ _) _) (aY.none _)) (by have:=HL9.o;omega) (by have:=HSx.o;simp;omega) ?_;intro v9 w9 ho9 hg9))
     have HRD9:=aA ((HRDx.o.alloc (.cells #[.string (K.str p.l.t),.complex .f64 (Fl.fl (Pl.pos (L.take p.l.o)).1) (Fl.fl (Pl.pos (L.take p.l.o)).2),.slice A p.r.length c,x3,x4] 135)).own HWN.o hg9 hRlt);have HG9:=aA (zae (aG HGL.o (.cells #[.string (K.str p.l.t),.complex .f64 (Fl.fl (Pl.pos (L.take p.l.o)).1) (Fl.fl (Pl.pos (L.take p.l.o)).2),.slice A p.r.length c,x3,x4] 135)) HWN.o hg9);obtain⟨A9,c9,hv9,_,_⟩:=ho9.form;rw[show(acc++[p]).length=acc.length+1 by simp]at hv9;subst hv9;have HO9:=aA ho9;have HB9:=aA ((zbI HBB.o (.cells #[.string (K.str p.l.t),.complex .f64 (Fl.fl (Pl.pos (L.take p.l.o)).1) (Fl.fl (Pl.pos (L.take p.l.o)).2),.slice A p.r.length c,x3,x4] 135) HWN.o hg9));obtain⟨z9,hown9⟩:=ho9.own;have HW9:=aA hown9;clear ho9 hg9 hown9;go_wp2_with fail
     refine(HIS9.o _ HRD9.o).mono ?_;rintro _ _ ⟨rfl,rfl⟩;go_wp2_with fail
     refine(HTT.o _ HRD9.o).mono ?_;rintro _ w10 ⟨rfl,hg10,hr10⟩;have HGF:=aA (HG9.o.trans hg10);have HOF:=aA (HO9.o.grown hg10 ⟨HRD9.o.other,zan HW9.o (by omega)⟩);have HRF:=aA hr10;clear hg10 hr10;go_wp2;go_ret
     refine⟨HGF.o,_,rfl,?_,?_⟩
     ·rw[<-HFIN.o.1];exact HOF.o
     ·rw[<-HFIN.o.2];exact HRF.o
    ·have HK:=aA hk11;rw[Y.is_two,hk11]at HIS9;obtain⟨rfl,hk⟩:=Y.take_ok HT.o
     have hk2:t.k=11:=by
      have h1:[(11:Int)].contains t.k=true:=hk11
      simpa using h1
     have HTT:=aA (fun(x:World) (h:Rd8 L B R px py x (t::m4))=>zed L B R px py t m4 11 11 x h (by show [(11:Int),11].contains t.k=true;rw[hk2];rfl));have HFIN:Hid (Y.alts f left (acc++[p]) m4=.ok ps r):=aA (by have h:=HYY.o;rwa [if_pos hk2]at h);unfold bO at HTT;clear hk11 hk hk2;go_wp2_with (at_builtin;(refine zdg rfl (.tmp 26) (.tmp 28) _ rfl Tryz.underlying94 L w.heap.size _ acc rfl (HAP.o.alloc5 _) w7.heap.size 1 p A c rfl HCE.o (HRRx.o.grown (aG (World.grownBy.refl _ _) _) (aY.none _)) (by have:=HL9.o;omega) (by have:=HSx.o;simp;omega) ?_;intro v9 w9 ho9 hg9))
     have HRD9:=aA ((HRDx.o.alloc (.cells #[.string (K.str p.l.t),.complex .f64 (Fl.fl (Pl.pos (L.take p.l.o)).1) (Fl.fl (Pl.pos (L.take p.l.o)).2),.slice A p.r.length c,x3,x4] 135)).own HWN.o hg9 hRlt);have HG9:=aA (zae (aG HGL.o (.cells #[.string (K.str p.l.t),.complex .f64 (Fl.fl (Pl.pos (L.take p.l.o)).1) (Fl.fl (Pl.pos (L.take p.l.o)).2),.slice A p.r.length c,x3,x4] 135)) HWN.o hg9);obtain⟨A9,c9,hv9,_,_⟩:=ho9.form;rw[show(acc++[p]).length=acc.length+1 by simp]at hv9;subst hv9;have HO9:=aA ho9;have HB9:=aA ((zbI HBB.o (.cells #[.string (K.str p.l.t),.complex .f64 (Fl.fl (Pl.pos (L.take p.l.o)).1) (Fl.fl (Pl.pos (L.take p.l.o)).2),.slice A p.r.length c,x3,x4] 135) HWN.o hg9));obtain⟨z9,hown9⟩:=ho9.own;have HW9:=aA hown9;clear ho9 hg9 hown9;go_wp2_with fail
     refine(HIS9.o _ HRD9.o).mono ?_;rintro _ _ ⟨rfl,rfl⟩;go_wp2_with fail
     refine(HTT.o _ HRD9.o).mono ?_;rintro _ w10 ⟨rfl,hg10,hr10⟩;have HGF:=aA (HG9.o.trans hg10);have HOF:=aA (HO9.o.grown hg10 ⟨HRD9.o.other,zan HW9.o (by omega)⟩);have HRF:=aA hr10;have HBF:=aA (zad hg10 HB9.o (by omega));clear hg10 hr10;go_wp2;go_roundw
     case rel=>exact⟨acc++[p],m4,f,HFIN,by have:=HM3.o;simp at this;omega,HOF.o,HRF.o,HGF.o,HBF.o,by have:=HM3.o;simp at this ⊢;omega⟩
     case measure=>have:=HL9.o;simp[zch];omega
theorem Y.decls_more:∀(f:Nat) (acc:List Y.Dcl) (ts:List Tok) (ds:List Y.Dcl) (r:List Tok),Y.decls f acc ts=.ok ds r->∃ms,ds=acc++ms
 | 0,acc,ts,ds,r,h=>by injection h with h1 h2;exact⟨[],by rw[<-h1,List.append_nil]⟩
 | f+1,acc,ts,ds,r,h=>by
  rw[Y.decls]at h;split at h
  ·injection h with h1 h2;exact⟨[],by rw[<-h1,List.append_nil]⟩
  ·obtain⟨d,m,h1,h2⟩:=Y.bind_eq_ok h;obtain⟨ms,e⟩:=Y.decls_more f _ _ _ _ h2;exact⟨d::ms,by rw[e];simp⟩
theorem bG.alloc5 {L:List Int} {w:World} {base:Nat} {v:Value} {ds:List Y.Dcl} (h:bG L w base v ds) (o:Obj):bG L (w.alloc o) base v ds:=h.grown (aG (World.grownBy.refl _ _) o) (zjH.none _ _)
theorem zl9 (L:List Int) (B R px py:Nat) (f:Nat) (ts:List Tok) (ds:List Y.Dcl) (r:List Tok) (w:World) (hr:Rd8 L B R px py w ts) (hy:Y.decls f [] ts=.ok ds r) (hf:ts.length<f) (hns:∀d∈ds,d.k=4\/d.k=5) :
  Calls Tryz.prog 89 #[.pointer (some ⟨R,0,none⟩)] w fun e w'=>w.grownBy w' (some R)/\∃v,e=.returned v/\bG L w' w.heap.size v ds/\Rd8 L B R px py w' r:=by
 have HR:=aA hr;have hRlt:=hr.lt;have HY:=aA hy;have HF:=aA hf;have HNS:=aA hns;have hts:=hr.len;have SC:=fun a w m X Y=>show(store a (.complex .f64 X Y) m).run Tryz.prog w=stored Tryz.prog w a (.complex .f64 X Y) m from run_store _ w a _ m rfl;have BDD:=fun A (n c:Nat) k w=>(run_build w 168 _ _ (by kernel_rfl):(Instr.build 168 #[(0,.int .i64 k),(1,.slice A n c)]).run Tryz.prog w=.ok (.agg #[.int .i64 k,.slice A n c]) w)
 clear hr hy hf hns
 go_enter Tryz.func89,Tryz.ntmps89
 go_wp2;go_loopw [3] (fun v wr=>∃(acc:List Y.Dcl) (rest:List Tok) (f:Nat),Hid (Y.decls f acc rest=.ok ds r)/\rest.length<f/\bG L wr w.heap.size v acc/\Rd8 L B R px py wr rest/\w.grownBy wr (some R)/\acc.length+rest.length<=ts.length) (fun v _=>4001-zch v)
 case atStart=>exact⟨[],ts,f,HY,HF.o,bG.nil _ _ _,HR.o,World.grownBy.refl _ _,by simp⟩
 case round =>
  clear HR HY HF;obtain⟨acc,rest,f,HY,hf,ho,hr,hg,hl⟩:=hrel;have HO:=aA ho;have HR:=aA hr;have HG:=aA hg;obtain⟨Aa,ca,rfl,_,_⟩:=ho.form;obtain⟨f,rfl⟩:∃f',f=f'+1:=⟨f-1,by omega⟩
  obtain⟨Ax,cx,hx0,hx3,_⟩:=hr.cell0;have HKD:=aA (fun(x:World) (h:Rd8 L B R px py x rest)=>zkm L B R px py rest x h);have hY:=HY.o;rw[Y.decls]at hY;rcases rest with _|⟨t,m1⟩
  ·exfalso
   rw[if_neg (by simp[Y.is])]at hY;obtain⟨d,m,h1,_⟩:=Y.bind_eq_ok hY;unfold Y.decl at h1;obtain⟨t,m,h2,_⟩:=Y.bind_eq_ok h1;cases h2
  have HK0:Hid (kd (t::m1)=t.k):=aA rfl;rw[HK0.o]at HKD;have hlen:0<((t::m1).length:Int):=by simp
  by_cases h9:t.k=9
  ·have HFIN:Hid (acc=ds/\t::m1=r):=aA (by
    rw[if_pos (by show [(9:Int)].contains t.k=true;rw[h9];rfl)]at hY;injection hY with h1 h2;exact⟨h1,h2⟩)
   rw[h9]at HKD;clear hY h9 ho hr hg;generalize (t::m1).length=n at *;go_wp2_with fail
   refine(HKD.o _ HR.o).mono ?_;rintro _ _ ⟨rfl,rfl⟩;go_wp2;go_ret
   exact⟨HG.o,_,rfl,by rw[<-HFIN.o.1];exact HO.o,by rw[<-HFIN.o.2];exact HR.o⟩
  ·rw[if_neg (by show ¬ [(9:Int)].contains t.k=true;simpa using fun e=>h9 e)]at hY;obtain⟨d,m2,hd,hY⟩:=Y.bind_eq_ok hY
   have hdk:d.k=4\/d.k=5:=by
    obtain⟨ms,e⟩:=Y.decls_more _ _ _ _ _ hY;exact HNS.o d (by rw[e];simp)
   unfold Y.decl at hd;obtain⟨t',m',h1,hd⟩:=Y.bind_eq_ok hd;obtain⟨e1,hk⟩:=Y.take_ok h1;injection e1 with e1 e2;subst e1 e2;by_cases h7:t.k=7
   ·rw[if_pos h7]at hd;obtain⟨n,m,_,hd⟩:=Y.bind_eq_ok hd;injection hd with hd _;rw[<-hd]at hdk;simp at hdk
   rw[if_neg h7]at hd;obtain⟨n,m3,h2,hd⟩:=Y.bind_eq_ok hd;injection hd with hd hm2;have hk3:t.k=4\/t.k=5:=by rw[<-hd]at hdk;exact hdk
   have HD:=aA (And.intro hd hm2);have HLR:Hid ((t::m1).length=m3.length+2):=aA (by rw[(Y.take_ok h2).1];simp);have HTA:=aA (fun(x:World) (h:Rd8 L B R px py x (t::m1))=>zed L B R px py t m1 t.k t.k x h (by show [t.k,t.k].contains t.k=true;simp));have HTB:=aA (fun(x:World) (h:Rd8 L B R px py x m1)=>zcq L B R px py m1 1 2 x h n m3 h2);have HYN:=aA hY;have b9:(t.k != 9)=true:=by simpa using h9
   have b7:(t.k==7)=false:=by simpa using h7
   have HKK:=aA hk3;unfold bO at HTA HTB;clear hY hd hm2 h1 h2 hk hdk h9 h7 ho hr hg;generalize (t::m1).length=len at *;generalize htk:t.k=tk at *;have HTK:=aA htk;clear htk;have HNR:Hid ((Value.slice Aa acc.length ca).ownBlock=none\/(Value.slice Aa acc.length ca).ownBlock≠some R):=aA (by obtain⟨zs,hown⟩:=HO.o.own;exact zan hown hRlt);have HLM:Hid (acc.length+m3.length<=4000):=aA (by have:=HLR.o;omega)
   have HNX:Hid (Hid (Y.decls f (acc++[d]) (m3.dropWhile Y.isRef)=.ok ds r)/\(m3.dropWhile Y.isRef).length<f/\(acc++[d]).length+(m3.dropWhile Y.isRef).length<=ts.length):=aA (by
    have h1:(m3.dropWhile Y.isRef).length<=m3.length:=(List.dropWhile_sublist _).length_le;have h2:=HLR.o;refine⟨by rw[HD.o.2];exact HYN,by omega,?_⟩;rw[List.length_append,List.length_singleton]
    omega)
   have HTW:Hid ((m3.takeWhile Y.isRef).length<=4000):=aA (by have h1:(m3.takeWhile Y.isRef).length<=m3.length:=(List.takeWhile_sublist _).length_le;have:=HLM.o;omega);have HDN:Hid (n::m3.takeWhile Y.isRef=d.ns):=aA (by rw[<-HD.o.1]);have HDC:Hid (∀(A:Option Addr) (c:Nat),zaV d A c=[.int .i64 tk,.slice A ((m3.takeWhile Y.isRef).length+1) c]):=aA (by intro A c;unfold zaV;rw[<-HD.o.1];simp only[List.length_cons]);clear HNS;rcases HKK.o with rfl|rfl
   ·go_wp2_with fail
    refine(HKD.o _ HR.o).mono ?_;rintro _ _ ⟨rfl,rfl⟩;go_wp2_with fail
    refine(HKD.o _ HR.o).mono ?_;rintro _ _ ⟨rfl,rfl⟩;go_wp2_with fail
    refine(HTA.o _ HR.o).mono ?_;rintro _ w2 ⟨rfl,hg2,hr2⟩;have HG2:=aA (HG.o.trans hg2);have HR2:=aA hr2;have HOD2:=aA (HO.o.grown hg2 ⟨HR.o.other,HNR.o⟩);clear hg2 hr2;go_wp2_with fail
    refine(HTB.o _ HR2.o).mono ?_;rintro _ w3 ⟨rfl,hg3,hr3⟩;have HG3:=aA (HG2.o.trans hg3);have HR3:=aA hr3;have HOD3:=aA (HOD2.o.grown hg3 ⟨HR2.o.other,HNR.o⟩);clear hg3 hr3;go_upto_region 11 with fail
    obtain⟨w4,hw4⟩:∃x,x=w3.alloc (.cells #[.string (K.str n.t),.complex .f64 (Fl.fl (Pl.pos (L.take n.o)).1) (Fl.fl (Pl.pos (L.take n.o)).2)] 127):=⟨_,rfl⟩
    rw[<-hw4];have HG4:Hid (w.grownBy w4 (some R)):=aA (by rw[hw4];exact aG HG3.o _);have HRD4:Hid (Rd8 L B R px py w4 m3):=aA (by rw[hw4];exact HR3.o.alloc _);have HB4:Hid (w4.heap[w3.heap.size]?=some (.cells #[.string (K.str n.t),.complex .f64 (Fl.fl (Pl.pos (L.take n.o)).1) (Fl.fl (Pl.pos (L.take n.o)).2)] 127 (0,0))):=aA (by rw[hw4];exact heap_alloc_new w3 _);have HOD4:Hid (bG L w4 w.heap.size (.slice Aa acc.length ca) acc):=aA (by rw[hw4];exact HOD3.o.alloc5 _);have hs4:w.heap.size<=w4.heap.size:=HG4.o.size;have hne3:w3.heap.size≠R:=by have:=HR3.o.lt;omega
    clear hw4 HOD2 HOD3;have CL0:=fun y:Calm.OnB w3.heap.size w4=>(show y.1.cell? ⟨w3.heap.size,0,none⟩=some (.string (K.str n.t)) by rw[cell_of_row y.1 _ 0 _ _ _ (y.2.trans HB4.o)];rfl)
    have CL1:=fun y:Calm.OnB w3.heap.size w4=>(show y.1.cell? ⟨w3.heap.size,1,none⟩=some (.complex .f64 (Fl.fl (Pl.pos (L.take n.o)).1) (Fl.fl (Pl.pos (L.take n.o)).2)) by rw[cell_of_row y.1 _ 1 _ _ _ (y.2.trans HB4.o)];rfl)
    have hd4:w4.grownBy w4.drew (some R):=aH w4 _;have HM:=aA (fun(x:World) (h:w4.grownBy x (some R))=>h.block w3.heap.size (Array.getElem?_eq_some_iff.1 HB4.o).1 (fun e=>by injection e with e;omega));have HRS:=aA (fun(x:World) (h:Rd8 L B R px py x m3)=>zj0 L B R px py m3 x h);refine Calm.region_tree (fun x=>∃y:Calm.OnB w3.heap.size w4,x=y.1) (.two [0,1,2,4] 3 (.one [] 5 (.one [] 6 (.one [7] 8 (.one [] 9 (.fin [10]))))) 5 (.one [] 3 (.one [] 6 (.one [7] 8 (.one [] 9 (.fin [10])))))) (by kernel_rfl) (by kernel_rfl) (fun _ _ d _ _ h=>by cases d <;> exact h) ⟨⟨w4.drew,HM.o _ hd4⟩,rfl⟩ ?_;simp only[Calm.wpT,Calm.wpSt,Calm.pickOps,List.getElem?_toArray,List.getElem?_cons_zero,List.getElem?_cons_succ];repeat (go_big_quiet_step (fail))
    refine wpQuiet_nil ?_;clear CL0 CL1;refine⟨?_,?_⟩
    ·intro KK hKK;rw[if_pos (by rfl)];go_wp2_with fail
     obtain⟨w5,hw5⟩:∃x,x=(w4.alloc (.cells #[.string (K.str n.t),.complex .f64 (Fl.fl (Pl.pos (L.take n.o)).1) (Fl.fl (Pl.pos (L.take n.o)).2)] 127)).drew:=⟨_,rfl⟩
     rw[<-hw5];have hg5:w4.grownBy w5 .none:=by rw[hw5];exact(aG (World.grownBy.refl _ _) _).trans (aH _ _)
     have ho5:bI L w5 w4.heap.size (.slice (some ⟨w4.heap.size,0,none⟩) 1 1) [n]:=by rw[hw5];exact zcY L w4 _ n (Nat.le_refl _)
     have hrd5:=HRD4.o.row hg5;clear hw5;refine hKK _ _ ⟨⟨w5,HM.o _ (hg5.row _)⟩,rfl⟩ (fun x=>∃y:Calm.OnB w3.heap.size w4,x=y.1) (fun _ h=>h) ⟨⟨w5,HM.o _ (hg5.row _)⟩,rfl⟩ ?_;refine wpQuiet_nil ?_;intro KK hKK;try rw[if_pos (by rfl)]
     go_wp2_with fail
     refine(HRS.o _ hrd5).mono ?_;rintro _ w6 ⟨hg6,v6,rfl,hof,hrd6⟩;have HG6:Hid (w4.grownBy w6 (some R)):=aA ((hg5.row _).trans hg6);have ho6:=ho5.grown hg6 hrd5.other;have HRD6:=aA hrd6;obtain⟨A6,c6,rfl,_,_,hrr6⟩:=hof.rd;have HRR6:=aA (hrr6.less hg5.size);clear hg5 ho5 hrd5 hg6 hof hrd6 hrr6;go_wp2_with fail
     refine hKK _ _ ⟨⟨w6,HM.o _ HG6.o⟩,rfl⟩ (fun x=>∃y:Calm.OnB w3.heap.size w4,x=y.1) (fun _ h=>h) ⟨⟨w6,HM.o _ HG6.o⟩,rfl⟩ ?_;have SV:Hid ((Value.slice (some ⟨w4.heap.size,0,none⟩) 1 1:Value)=.slice (some ⟨w4.heap.size,0,none⟩) 1 1):=aA rfl;refine wpQuiet_nil ?_;intro KK hKK;try rw[if_pos (by rfl)]
     have HO6:=aA ho6;clear ho6;refine zdf (.tmp 65) (.tmp 67) _ rfl Tryz.underlying133 L w4.heap.size w4.heap.size _ [n] rfl HO6.o A6 _ c6 _ rfl rfl HRR6.o (by have:=HTW.o;rw[List.length_singleton];omega) (by have:=HG6.o.size;omega) ?_;intro v7 w7 ho7 hg7;have hg7':w4.grownBy w7 (some R):=zae HG6.o HO6.o hg7;have hrd7:=HRD6.o.own HO6.o hg7 (by omega);have hod7:=HOD4.o.grown hg7' ⟨HRD4.o.other,HNR.o⟩;obtain⟨A7,c7,hv7,_,_,hrr7⟩:=ho7.rd;rw[show([n]++m3.takeWhile Y.isRef).length=(m3.takeWhile Y.isRef).length+1 by rw[List.length_append,List.length_singleton];omega]at hv7;subst hv7;have HRR7:=aA hrr7;have HRD7:=aA hrd7;have HG7:=aA hg7';have HOD7:=aA hod7;have HRRd:Hid (RdR L w7 w.heap.size A7 d.ns):=aA (by rw[<-HDN.o];exact hrr7.less hs4);clear ho7 hg7 hg7' hrr7 hrd7 hod7;go_wp2_with fail
     refine hKK _ _ ⟨⟨w7,HM.o _ HG7.o⟩,rfl⟩ (fun x=>∃y:Calm.OnB w3.heap.size w4,x=y.1) (fun _ h=>h) ⟨⟨w7,HM.o _ HG7.o⟩,rfl⟩ ?_;repeat (go_big_quiet_step (fail))
     refine wpQuiet_nil ?_;intro KK hKK;try rw[if_pos (by rfl)]
     go_wp2_with fail
     have HG8:=aA (aG HG7.o (.cells #[.int .i64 4,.slice A7 ((m3.takeWhile Y.isRef).length+1) c7] 168));have HCE:=aA (fun j u (hj:(zaV d A7 c7)[j]?=some u)=>(aL w7 [.int .i64 4,.slice A7 ((m3.takeWhile Y.isRef).length+1) c7] 168 j).trans (HDC.o A7 c7▸hj));refine hKK _ _ ⟨⟨_,HM.o _ HG8.o⟩,rfl⟩ (fun x=>∃y:Calm.OnB w3.heap.size w4,x=y.1) (fun _ h=>h) ⟨⟨_,HM.o _ HG8.o⟩,rfl⟩ ?_;refine wpQuiet_nil ?_;intro KK hKK;try rw[if_pos (by rfl)]
     refine zfn (.tmp 62) (.tmp 70) _ rfl Tryz.underlying93 L w.heap.size (.slice Aa acc.length ca) acc rfl (HOD7.o.alloc5 _) w7.heap.size 1 d A7 c7 rfl HCE.o (HRRd.o.grown (aG (World.grownBy.refl _ _) _) (aY.none _)) (by have:=HLM.o;omega) (by have:=HG7.o.size;simp;omega) ?_;intro v9 w9 ho9 hg9;obtain⟨z9,hz9⟩:=(HOD7.o.alloc5 (.cells #[.int .i64 4,.slice A7 ((m3.takeWhile Y.isRef).length+1) c7] 168)).own;have HG9:=aA (zae (HG4.o.trans HG8.o) hz9 hg9);have HG94:=aA (World.grownBy.block hg9 w3.heap.size (by have h1:=(Array.getElem?_eq_some_iff.1 HB4.o).1;have h2:=HG8.o.size;omega) (by rcases aP hz9 ((HM.o _ HG8.o).trans HB4.o) (fun cur e=>by injection e with _ e;exact absurd e (by decide)) with q|q;rw[q];simp;exact fun e=>q e.symm));have HM9:=aA (HG94.o.trans (HM.o _ HG8.o));have HRD9:=aA ((HRD7.o.alloc (.cells #[.int .i64 4,.slice A7 ((m3.takeWhile Y.isRef).length+1) c7] 168)).own hz9 hg9 hRlt);obtain⟨A9,c9,hv9,_,_⟩:=ho9.form;rw[show(acc++[d]).length=acc.length+1 by simp]at hv9;subst hv9;have HO9:=aA ho9;clear ho9 hg9;go_wp2_with fail
     refine hKK _ _ ⟨⟨w9,HM9.o⟩,rfl⟩ (fun x=>∃y:Calm.OnB w3.heap.size w4,x=y.1) (fun _ h=>h) ⟨⟨w9,HM9.o⟩,rfl⟩ ?_;repeat (go_big_quiet_step (fail))
     refine wpQuiet_nil ?_;go_wp2_with fail
     go_roundw
     case rel=>exact⟨acc++[d],m3.dropWhile Y.isRef,f,HNX.o.1,HNX.o.2.1,HO9.o,HRD9.o,HG9.o,HNX.o.2.2⟩
     case measure=>have:=HLM.o;simp[zch];omega
    ·intro KK hKK;rw[if_pos (by rfl)];go_wp2_with fail
     refine(HRS.o _ HRD4.o.drew).mono ?_;rintro _ w5 ⟨hg5',v5,rfl,hof,hrd5⟩;have hg5:w4.grownBy w5 (some R):=hd4.trans hg5';obtain⟨A6,c6,rfl,_,_,hrr5⟩:=hof.rd;go_wp2_with fail
     refine hKK _ _ ⟨⟨w5,HM.o _ hg5⟩,rfl⟩ (fun x=>∃y:Calm.OnB w3.heap.size w4,x=y.1) (fun _ h=>h) ⟨⟨w5,HM.o _ hg5⟩,rfl⟩ ?_;refine wpQuiet_nil ?_;intro KK hKK;try rw[if_pos (by rfl)]
     go_wp2_with fail
     obtain⟨w6,hw6⟩:∃x,x=w5.alloc (.cells #[.string (K.str n.t),.complex .f64 (Fl.fl (Pl.pos (L.take n.o)).1) (Fl.fl (Pl.pos (L.take n.o)).2)] 127):=⟨_,rfl⟩
     rw[<-hw6];have HG6:Hid (w4.grownBy w6 (some R)):=aA (by rw[hw6];exact aG hg5 _);have ho6:bI L w6 w4.heap.size (.slice (some ⟨w5.heap.size,0,none⟩) 1 1) [n]:=by rw[hw6];exact zcY L w5 _ n hg5.size
     have HRD6:Hid (Rd8 L B R px py w6 (m3.dropWhile Y.isRef)):=aA (by rw[hw6];exact hrd5.alloc _);have HRR6:Hid (RdR L w6 w4.heap.size A6 (m3.takeWhile Y.isRef)):=aA (by rw[hw6];exact(hrr5.less (Nat.le_refl _)).grown (aG (World.grownBy.refl _ _) _) (aY.none _));clear hw6 hg5 hg5' hof hrr5 hrd5;refine hKK _ _ ⟨⟨w6,HM.o _ HG6.o⟩,rfl⟩ (fun x=>∃y:Calm.OnB w3.heap.size w4,x=y.1) (fun _ h=>h) ⟨⟨w6,HM.o _ HG6.o⟩,rfl⟩ ?_;refine wpQuiet_nil ?_;intro KK hKK;try rw[if_pos (by rfl)]
     have HO6:=aA ho6;clear ho6;refine zdf (.tmp 65) (.tmp 67) _ rfl Tryz.underlying133 L w4.heap.size w4.heap.size _ [n] rfl HO6.o A6 _ c6 _ rfl rfl HRR6.o (by have:=HTW.o;rw[List.length_singleton];omega) (by have:=HG6.o.size;omega) ?_;intro v7 w7 ho7 hg7;have hg7':w4.grownBy w7 (some R):=zae HG6.o HO6.o hg7;have hrd7:=HRD6.o.own HO6.o hg7 (by omega);have hod7:=HOD4.o.grown hg7' ⟨HRD4.o.other,HNR.o⟩;obtain⟨A7,c7,hv7,_,_,hrr7⟩:=ho7.rd;rw[show([n]++m3.takeWhile Y.isRef).length=(m3.takeWhile Y.isRef).length+1 by rw[List.length_append,List.length_singleton];omega]at hv7;subst hv7;have HRR7:=aA hrr7;have HRD7:=aA hrd7;have HG7:=aA hg7';have HOD7:=aA hod7;have HRRd:Hid (RdR L w7 w.heap.size A7 d.ns):=aA (by rw[<-HDN.o];exact hrr7.less hs4);clear ho7 hg7 hg7' hrr7 hrd7 hod7;go_wp2_with fail
     refine hKK _ _ ⟨⟨w7,HM.o _ HG7.o⟩,rfl⟩ (fun x=>∃y:Calm.OnB w3.heap.size w4,x=y.1) (fun _ h=>h) ⟨⟨w7,HM.o _ HG7.o⟩,rfl⟩ ?_;repeat (go_big_quiet_step (fail))
     refine wpQuiet_nil ?_;intro KK hKK;try rw[if_pos (by rfl)]
     go_wp2_with fail
     have HG8:=aA (aG HG7.o (.cells #[.int .i64 4,.slice A7 ((m3.takeWhile Y.isRef).length+1) c7] 168));have HCE:=aA (fun j u (hj:(zaV d A7 c7)[j]?=some u)=>(aL w7 [.int .i64 4,.slice A7 ((m3.takeWhile Y.isRef).length+1) c7] 168 j).trans (HDC.o A7 c7▸hj));refine hKK _ _ ⟨⟨_,HM.o _ HG8.o⟩,rfl⟩ (fun x=>∃y:Calm.OnB w3.heap.size w4,x=y.1) (fun _ h=>h) ⟨⟨_,HM.o _ HG8.o⟩,rfl⟩ ?_;refine wpQuiet_nil ?_;intro KK hKK;try rw[if_pos (by rfl)]
     refine zfn (.tmp 62) (.tmp 70) _ rfl Tryz.underlying93 L w.heap.size (.slice Aa acc.length ca) acc rfl (HOD7.o.alloc5 _) w7.heap.size 1 d A7 c7 rfl HCE.o (HRRd.o.grown (aG (World.grownBy.refl _ _) _) (aY.none _)) (by have:=HLM.o;omega) (by have:=HG7.o.size;simp;omega) ?_;intro v9 w9 ho9 hg9;obtain⟨z9,hz9⟩:=(HOD7.o.alloc5 (.cells #[.int .i64 4,.slice A7 ((m3.takeWhile Y.isRef).length+1) c7] 168)).own;have HG9:=aA (zae (HG4.o.trans HG8.o) hz9 hg9);have HG94:=aA (World.grownBy.block hg9 w3.heap.size (by have h1:=(Array.getElem?_eq_some_iff.1 HB4.o).1;have h2:=HG8.o.size;omega) (by rcases aP hz9 ((HM.o _ HG8.o).trans HB4.o) (fun cur e=>by injection e with _ e;exact absurd e (by decide)) with q|q;rw[q];simp;exact fun e=>q e.symm));have HM9:=aA (HG94.o.trans (HM.o _ HG8.o));have HRD9:=aA ((HRD7.o.alloc (.cells #[.int .i64 4,.slice A7 ((m3.takeWhile Y.isRef).length+1) c7] 168)).own hz9 hg9 hRlt);obtain⟨A9,c9,hv9,_,_⟩:=ho9.form;rw[show(acc++[d]).length=acc.length+1 by simp]at hv9;subst hv9;have HO9:=aA ho9;clear ho9 hg9;go_wp2_with fail
     refine hKK _ _ ⟨⟨w9,HM9.o⟩,rfl⟩ (fun x=>∃y:Calm.OnB w3.heap.size w4,x=y.1) (fun _ h=>h) ⟨⟨w9,HM9.o⟩,rfl⟩ ?_;repeat (go_big_quiet_step (fail))
     refine wpQuiet_nil ?_;go_wp2_with fail
     go_roundw
     case rel=>exact⟨acc++[d],m3.dropWhile Y.isRef,f,HNX.o.1,HNX.o.2.1,HO9.o,HRD9.o,HG9.o,HNX.o.2.2⟩
     case measure=>have:=HLM.o;simp[zch];omega
   ·go_wp2_with fail
    refine(HKD.o _ HR.o).mono ?_;rintro _ _ ⟨rfl,rfl⟩;go_wp2_with fail
    refine(HKD.o _ HR.o).mono ?_;rintro _ _ ⟨rfl,rfl⟩;go_wp2_with fail
    refine(HTA.o _ HR.o).mono ?_;rintro _ w2 ⟨rfl,hg2,hr2⟩;have HG2:=aA (HG.o.trans hg2);have HR2:=aA hr2;have HOD2:=aA (HO.o.grown hg2 ⟨HR.o.other,HNR.o⟩);clear hg2 hr2;go_wp2_with fail
    refine(HTB.o _ HR2.o).mono ?_;rintro _ w3 ⟨rfl,hg3,hr3⟩;have HG3:=aA (HG2.o.trans hg3);have HR3:=aA hr3;have HOD3:=aA (HOD2.o.grown hg3 ⟨HR2.o.other,HNR.o⟩);clear hg3 hr3;go_upto_region 11 with fail
    obtain⟨w4,hw4⟩:∃x,x=w3.alloc (.cells #[.string (K.str n.t),.complex .f64 (Fl.fl (Pl.pos (L.take n.o)).1) (Fl.fl (Pl.pos (L.take n.o)).2)] 127):=⟨_,rfl⟩
    rw[<-hw4];have HG4:Hid (w.grownBy w4 (some R)):=aA (by rw[hw4];exact aG HG3.o _);have HRD4:Hid (Rd8 L B R px py w4 m3):=aA (by rw[hw4];exact HR3.o.alloc _);have HB4:Hid (w4.heap[w3.heap.size]?=some (.cells #[.string (K.str n.t),.complex .f64 (Fl.fl (Pl.pos (L.take n.o)).1) (Fl.fl (Pl.pos (L.take n.o)).2)] 127 (0,0))):=aA (by rw[hw4];exact heap_alloc_new w3 _);have HOD4:Hid (bG L w4 w.heap.size (.slice Aa acc.length ca) acc):=aA (by rw[hw4];exact HOD3.o.alloc5 _);have hs4:w.heap.size<=w4.heap.size:=HG4.o.size;have hne3:w3.heap.size≠R:=by have:=HR3.o.lt;omega
    clear hw4 HOD2 HOD3;have CL0:=fun y:Calm.OnB w3.heap.size w4=>(show y.1.cell? ⟨w3.heap.size,0,none⟩=some (.string (K.str n.t)) by rw[cell_of_row y.1 _ 0 _ _ _ (y.2.trans HB4.o)];rfl)
    have CL1:=fun y:Calm.OnB w3.heap.size w4=>(show y.1.cell? ⟨w3.heap.size,1,none⟩=some (.complex .f64 (Fl.fl (Pl.pos (L.take n.o)).1) (Fl.fl (Pl.pos (L.take n.o)).2)) by rw[cell_of_row y.1 _ 1 _ _ _ (y.2.trans HB4.o)];rfl)
    have hd4:w4.grownBy w4.drew (some R):=aH w4 _;have HM:=aA (fun(x:World) (h:w4.grownBy x (some R))=>h.block w3.heap.size (Array.getElem?_eq_some_iff.1 HB4.o).1 (fun e=>by injection e with e;omega));have HRS:=aA (fun(x:World) (h:Rd8 L B R px py x m3)=>zj0 L B R px py m3 x h);refine Calm.region_tree (fun x=>∃y:Calm.OnB w3.heap.size w4,x=y.1) (.two [0,1,2,4] 3 (.one [] 5 (.one [] 6 (.one [7] 8 (.one [] 9 (.fin [10]))))) 5 (.one [] 3 (.one [] 6 (.one [7] 8 (.one [] 9 (.fin [10])))))) (by kernel_rfl) (by kernel_rfl) (fun _ _ d _ _ h=>by cases d <;> exact h) ⟨⟨w4.drew,HM.o _ hd4⟩,rfl⟩ ?_;simp only[Calm.wpT,Calm.wpSt,Calm.pickOps,List.getElem?_toArray,List.getElem?_cons_zero,List.getElem?_cons_succ];repeat (go_big_quiet_step (fail))
    refine wpQuiet_nil ?_;clear CL0 CL1;refine⟨?_,?_⟩
    ·intro KK hKK;rw[if_pos (by rfl)];go_wp2_with fail
     obtain⟨w5,hw5⟩:∃x,x=(w4.alloc (.cells #[.string (K.str n.t),.complex .f64 (Fl.fl (Pl.pos (L.take n.o)).1) (Fl.fl (Pl.pos (L.take n.o)).2)] 127)).drew:=⟨_,rfl⟩
     rw[<-hw5];have hg5:w4.grownBy w5 .none:=by rw[hw5];exact(aG (World.grownBy.refl _ _) _).trans (aH _ _)
     have ho5:bI L w5 w4.heap.size (.slice (some ⟨w4.heap.size,0,none⟩) 1 1) [n]:=by rw[hw5];exact zcY L w4 _ n (Nat.le_refl _)
     have hrd5:=HRD4.o.row hg5;clear hw5;refine hKK _ _ ⟨⟨w5,HM.o _ (hg5.row _)⟩,rfl⟩ (fun x=>∃y:Calm.OnB w3.heap.size w4,x=y.1) (fun _ h=>h) ⟨⟨w5,HM.o _ (hg5.row _)⟩,rfl⟩ ?_;refine wpQuiet_nil ?_;intro KK hKK;try rw[if_pos (by rfl)]
     go_wp2_with fail
     refine(HRS.o _ hrd5).mono ?_;rintro _ w6 ⟨hg6,v6,rfl,hof,hrd6⟩;have HG6:Hid (w4.grownBy w6 (some R)):=aA ((hg5.row _).trans hg6);have ho6:=ho5.grown hg6 hrd5.other;have HRD6:=aA hrd6;obtain⟨A6,c6,rfl,_,_,hrr6⟩:=hof.rd;have HRR6:=aA (hrr6.less hg5.size);clear hg5 ho5 hrd5 hg6 hof hrd6 hrr6;go_wp2_with fail
     refine hKK _ _ ⟨⟨w6,HM.o _ HG6.o⟩,rfl⟩ (fun x=>∃y:Calm.OnB w3.heap.size w4,x=y.1) (fun _ h=>h) ⟨⟨w6,HM.o _ HG6.o⟩,rfl⟩ ?_;have SV:Hid ((Value.slice (some ⟨w4.heap.size,0,none⟩) 1 1:Value)=.slice (some ⟨w4.heap.size,0,none⟩) 1 1):=aA rfl;refine wpQuiet_nil ?_;intro KK hKK;try rw[if_pos (by rfl)]
     have HO6:=aA ho6;clear ho6;refine zdf (.tmp 65) (.tmp 67) _ rfl Tryz.underlying133 L w4.heap.size w4.heap.size _ [n] rfl HO6.o A6 _ c6 _ rfl rfl HRR6.o (by have:=HTW.o;rw[List.length_singleton];omega) (by have:=HG6.o.size;omega) ?_;intro v7 w7 ho7 hg7;have hg7':w4.grownBy w7 (some R):=zae HG6.o HO6.o hg7;have hrd7:=HRD6.o.own HO6.o hg7 (by omega);have hod7:=HOD4.o.grown hg7' ⟨HRD4.o.other,HNR.o⟩;obtain⟨A7,c7,hv7,_,_,hrr7⟩:=ho7.rd;rw[show([n]++m3.takeWhile Y.isRef).length=(m3.takeWhile Y.isRef).length+1 by rw[List.length_append,List.length_singleton];omega]at hv7;subst hv7;have HRR7:=aA hrr7;have HRD7:=aA hrd7;have HG7:=aA hg7';have HOD7:=aA hod7;have HRRd:Hid (RdR L w7 w.heap.size A7 d.ns):=aA (by rw[<-HDN.o];exact hrr7.less hs4);clear ho7 hg7 hg7' hrr7 hrd7 hod7;go_wp2_with fail
     refine hKK _ _ ⟨⟨w7,HM.o _ HG7.o⟩,rfl⟩ (fun x=>∃y:Calm.OnB w3.heap.size w4,x=y.1) (fun _ h=>h) ⟨⟨w7,HM.o _ HG7.o⟩,rfl⟩ ?_;repeat (go_big_quiet_step (fail))
     refine wpQuiet_nil ?_;intro KK hKK;try rw[if_pos (by rfl)]
     go_wp2_with fail
     have HG8:=aA (aG HG7.o (.cells #[.int .i64 5,.slice A7 ((m3.takeWhile Y.isRef).length+1) c7] 168));have HCE:=aA (fun j u (hj:(zaV d A7 c7)[j]?=some u)=>(aL w7 [.int .i64 5,.slice A7 ((m3.takeWhile Y.isRef).length+1) c7] 168 j).trans (HDC.o A7 c7▸hj));refine hKK _ _ ⟨⟨_,HM.o _ HG8.o⟩,rfl⟩ (fun x=>∃y:Calm.OnB w3.heap.size w4,x=y.1) (fun _ h=>h) ⟨⟨_,HM.o _ HG8.o⟩,rfl⟩ ?_;refine wpQuiet_nil ?_;intro KK hKK;try rw[if_pos (by rfl)]
     refine zfn (.tmp 62) (.tmp 70) _ rfl Tryz.underlying93 L w.heap.size (.slice Aa acc.length ca) acc rfl (HOD7.o.alloc5 _) w7.heap.size 1 d A7 c7 rfl HCE.o (HRRd.o.grown (aG (World.grownBy.refl _ _) _) (aY.none _)) (by have:=HLM.o;omega) (by have:=HG7.o.size;simp;omega) ?_;intro v9 w9 ho9 hg9;obtain⟨z9,hz9⟩:=(HOD7.o.alloc5 (.cells #[.int .i64 5,.slice A7 ((m3.takeWhile Y.isRef).length+1) c7] 168)).own;have HG9:=aA (zae (HG4.o.trans HG8.o) hz9 hg9);have HG94:=aA (World.grownBy.block hg9 w3.heap.size (by have h1:=(Array.getElem?_eq_some_iff.1 HB4.o).1;have h2:=HG8.o.size;omega) (by rcases aP hz9 ((HM.o _ HG8.o).trans HB4.o) (fun cur e=>by injection e with _ e;exact absurd e (by decide)) with q|q;rw[q];simp;exact fun e=>q e.symm));have HM9:=aA (HG94.o.trans (HM.o _ HG8.o));have HRD9:=aA ((HRD7.o.alloc (.cells #[.int .i64 5,.slice A7 ((m3.takeWhile Y.isRef).length+1) c7] 168)).own hz9 hg9 hRlt);obtain⟨A9,c9,hv9,_,_⟩:=ho9.form;rw[show(acc++[d]).length=acc.length+1 by simp]at hv9;subst hv9;have HO9:=aA ho9;clear ho9 hg9;go_wp2_with fail
     refine hKK _ _ ⟨⟨w9,HM9.o⟩,rfl⟩ (fun x=>∃y:Calm.OnB w3.heap.size w4,x=y.1) (fun _ h=>h) ⟨⟨w9,HM9.o⟩,rfl⟩ ?_;repeat (go_big_quiet_step (fail))
     refine wpQuiet_nil ?_;go_wp2_with fail
     go_roundw
     case rel=>exact⟨acc++[d],m3.dropWhile Y.isRef,f,HNX.o.1,HNX.o.2.1,HO9.o,HRD9.o,HG9.o,HNX.o.2.2⟩
     case measure=>have:=HLM.o;simp[zch];omega
    ·intro KK hKK;rw[if_pos (by rfl)];go_wp2_with fail
     refine(HRS.o _ HRD4.o.drew).mono ?_;rintro _ w5 ⟨hg5',v5,rfl,hof,hrd5⟩;have hg5:w4.grownBy w5 (some R):=hd4.trans hg5';obtain⟨A6,c6,rfl,_,_,hrr5⟩:=hof.rd;go_wp2_with fail
     refine hKK _ _ ⟨⟨w5,HM.o _ hg5⟩,rfl⟩ (fun x=>∃y:Calm.OnB w3.heap.size w4,x=y.1) (fun _ h=>h) ⟨⟨w5,HM.o _ hg5⟩,rfl⟩ ?_;refine wpQuiet_nil ?_;intro KK hKK;try rw[if_pos (by rfl)]
     go_wp2_with fail
     obtain⟨w6,hw6⟩:∃x,x=w5.alloc (.cells #[.string (K.str n.t),.complex .f64 (Fl.fl (Pl.pos (L.take n.o)).1) (Fl.fl (Pl.pos (L.take n.o)).2)] 127):=⟨_,rfl⟩
     rw[<-hw6];have HG6:Hid (w4.grownBy w6 (some R)):=aA (by rw[hw6];exact aG hg5 _);have ho6:bI L w6 w4.heap.size (.slice (some ⟨w5.heap.size,0,none⟩) 1 1) [n]:=by rw[hw6];exact zcY L w5 _ n hg5.size
     have HRD6:Hid (Rd8 L B R px py w6 (m3.dropWhile Y.isRef)):=aA (by rw[hw6];exact hrd5.alloc _);have HRR6:Hid (RdR L w6 w4.heap.size A6 (m3.takeWhile Y.isRef)):=aA (by rw[hw6];exact(hrr5.less (Nat.le_refl _)).grown (aG (World.grownBy.refl _ _) _) (aY.none _));clear hw6 hg5 hg5' hof hrr5 hrd5;refine hKK _ _ ⟨⟨w6,HM.o _ HG6.o⟩,rfl⟩ (fun x=>∃y:Calm.OnB w3.heap.size w4,x=y.1) (fun _ h=>h) ⟨⟨w6,HM.o _ HG6.o⟩,rfl⟩ ?_;refine wpQuiet_nil ?_;intro KK hKK;try rw[if_pos (by rfl)]
     have HO6:=aA ho6;clear ho6;refine zdf (.tmp 65) (.tmp 67) _ rfl Tryz.underlying133 L w4.heap.size w4.heap.size _ [n] rfl HO6.o A6 _ c6 _ rfl rfl HRR6.o (by have:=HTW.o;rw[List.length_singleton];omega) (by have:=HG6.o.size;omega) ?_;intro v7 w7 ho7 hg7;have hg7':w4.grownBy w7 (some R):=zae HG6.o HO6.o hg7;have hrd7:=HRD6.o.own HO6.o hg7 (by omega);have hod7:=HOD4.o.grown hg7' ⟨HRD4.o.other,HNR.o⟩;obtain⟨A7,c7,hv7,_,_,hrr7⟩:=ho7.rd;rw[show([n]++m3.takeWhile Y.isRef).length=(m3.takeWhile Y.isRef).length+1 by rw[List.length_append,List.length_singleton];omega]at hv7;subst hv7;have HRR7:=aA hrr7;have HRD7:=aA hrd7;have HG7:=aA hg7';have HOD7:=aA hod7;have HRRd:Hid (RdR L w7 w.heap.size A7 d.ns):=aA (by rw[<-HDN.o];exact hrr7.less hs4);clear ho7 hg7 hg7' hrr7 hrd7 hod7;go_wp2_with fail
     refine hKK _ _ ⟨⟨w7,HM.o _ HG7.o⟩,rfl⟩ (fun x=>∃y:Calm.OnB w3.heap.size w4,x=y.1) (fun _ h=>h) ⟨⟨w7,HM.o _ HG7.o⟩,rfl⟩ ?_;repeat (go_big_quiet_step (fail))
     refine wpQuiet_nil ?_;intro KK hKK;try rw[if_pos (by rfl)]
     go_wp2_with fail
     have HG8:=aA (aG HG7.o (.cells #[.int .i64 5,.slice A7 ((m3.takeWhile Y.isRef).length+1) c7] 168));have HCE:=aA (fun j u (hj:(zaV d A7 c7)[j]?=some u)=>(aL w7 [.int .i64 5,.slice A7 ((m3.takeWhile Y.isRef).length+1) c7] 168 j).trans (HDC.o A7 c7▸hj));refine hKK _ _ ⟨⟨_,HM.o _ HG8.o⟩,rfl⟩ (fun x=>∃y:Calm.OnB w3.heap.size w4,x=y.1) (fun _ h=>h) ⟨⟨_,HM.o _ HG8.o⟩,rfl⟩ ?_;refine wpQuiet_nil ?_;intro KK hKK;try rw[if_pos (by rfl)]
     refine zfn (.tmp 62) (.tmp 70) _ rfl Tryz.underlying93 L w.heap.size (.slice Aa acc.length ca) acc rfl (HOD7.o.alloc5 _) w7.heap.size 1 d A7 c7 rfl HCE.o (HRRd.o.grown (aG (World.grownBy.refl _ _) _) (aY.none _)) (by have:=HLM.o;omega) (by have:=HG7.o.size;simp;omega) ?_;intro v9 w9 ho9 hg9;obtain⟨z9,hz9⟩:=(HOD7.o.alloc5 (.cells #[.int .i64 5,.slice A7 ((m3.takeWhile Y.isRef).length+1) c7] 168)).own;have HG9:=aA (zae (HG4.o.trans HG8.o) hz9 hg9);have HG94:=aA (World.grownBy.block hg9 w3.heap.size (by have h1:=(Array.getElem?_eq_some_iff.1 HB4.o).1;have h2:=HG8.o.size;omega) (by rcases aP hz9 ((HM.o _ HG8.o).trans HB4.o) (fun cur e=>by injection e with _ e;exact absurd e (by decide)) with q|q;rw[q];simp;exact fun e=>q e.symm));have HM9:=aA (HG94.o.trans (HM.o _ HG8.o));have HRD9:=aA ((HRD7.o.alloc (.cells #[.int .i64 5,.slice A7 ((m3.takeWhile Y.isRef).length+1) c7] 168)).own hz9 hg9 hRlt);obtain⟨A9,c9,hv9,_,_⟩:=ho9.form;rw[show(acc++[d]).length=acc.length+1 by simp]at hv9;subst hv9;have HO9:=aA ho9;clear ho9 hg9;go_wp2_with fail
     refine hKK _ _ ⟨⟨w9,HM9.o⟩,rfl⟩ (fun x=>∃y:Calm.OnB w3.heap.size w4,x=y.1) (fun _ h=>h) ⟨⟨w9,HM9.o⟩,rfl⟩ ?_;repeat (go_big_quiet_step (fail))
     refine wpQuiet_nil ?_;go_wp2_with fail
     go_roundw
     case rel=>exact⟨acc++[d],m3.dropWhile Y.isRef,f,HNX.o.1,HNX.o.2.1,HO9.o,HRD9.o,HG9.o,HNX.o.2.2⟩
     case measure=>have:=HLM.o;simp[zch];omega
namespace T
theorem pre_two (l:List Int) (a b:Int) (hl:K.Bytes l) (hab:K.Bytes [a,b]) (h:pre l [a,b]=true):l.getD 0 0=a/\l.getD 1 0=b:=by
 have hlen:=zb5 l _ h;rw[pre_take l [a,b],beq_iff_eq,str_list,str_list]at h;have h2:=K.bytes_inj (hl.take 2) hab h
 match l,hlen with
 | x::y::r,_ =>
  simp at h2;exact⟨h2.1,h2.2⟩
theorem piece_blank (l:List Int) (h:l.getD 0 0=32\/l.getD 0 0=9\/l.getD 0 0=10\/l.getD 0 0=13):piece l=(0,1,0):=by
 unfold piece;simp only;rw[if_pos h]
theorem piece_47 (l:List Int) (h:l.getD 0 0=47):piece l=comment l:=by
 unfold piece;simp only[h];rfl
theorem piece_60 (l:List Int) (h:l.getD 0 0=60):piece l=skip (line l) 1 [62]:=by
 unfold piece;simp only[h];rfl
theorem piece_123 (l:List Int) (h:l.getD 0 0=123):piece l=action l:=by
 unfold piece;simp only[h];rfl
theorem piece_37 (l:List Int) (h:l.getD 0 0=37):piece l=percent l:=by
 unfold piece;simp only[h];rfl
theorem piece_else (l:List Int) (hb:¬(l.getD 0 0=32\/l.getD 0 0=9\/l.getD 0 0=10\/l.getD 0 0=13)) (h1:pre l [47,42]=false) (h2:pre l [47,47]=false) (h3:pre l [37,123]=false) (h4:¬l.getD 0 0=60) (h5:¬l.getD 0 0=123) (he:(piece l).2.2=0):(piece l).1≠0:=by
 revert he
 unfold piece;simp only;rw[if_neg hb,if_neg h4,if_neg h5];split
 ·unfold comment;rw[h1,h2];simp
 split
 ·unfold percent;rw[h3];have hw:=wkind_bd (List.drop 1 (List.take (psize l) l));split
  ·simp
  split
  ·rename_i h;simp at h
  split
  ·simp
  ·rename_i hh;intro _;exact hh
 split
 ·unfold literal;split
  ·simp
  split
  ·simp
  split <;> simp
 split
 ·simp
 split
 ·simp
 split
 ·simp
 ·unfold name;split
  ·simp
  split <;> simp
end T
def zci (k:Nat) (x:T.P3):Value:=.tuple #[.int .i64 (if x.1=0 then((k+x.2.1:Nat):Int) else k),.bool (x.1==0)]
theorem zgy (w:World) (A:Option Addr) (c n k:Nat) (hk:k<=c):(Instr.sliceAt 65 (.slice A n c) none (some (.int .i64 k)) none).run Tryz.prog w=.ok (.slice A k c) w:=zh9 w A c n k hk
theorem zaW {k:Nat} {x:T.P3} {P:Int} (h:x.1=0) (hp:P=((k+x.2.1:Nat):Int)):zci k x=.tuple #[.int .i64 P,.bool true]:=by
 unfold zci;rw[if_pos h,h,hp];rfl
theorem zeL {k:Nat} {x:T.P3} (h:x.1≠0):zci k x=.tuple #[.int .i64 k,.bool false]:=by
 unfold zci;rw[if_neg h,show(x.1==0)=false by simpa using h]
theorem zb7 (k:Nat) (m:List Int) (f:Nat) (s:List Int) (P:Int) (hP:T.pastV m s (k+f)=P) (l:List Int) (hl:m.drop (k+f)=l.drop f) (he:(T.skip l f s).2.2=0):P=((k+(T.skip l f s).2.1:Nat):Int)/\(T.skip l f s).1=0:=by
 unfold T.pastV at hP;rw[hl]at hP;unfold T.skip at he ⊢;by_cases h:T.ix (l.drop f) s<0
 ·rw[if_pos h]at he;simp at he
 ·rw[if_neg h]at he ⊢;rw[if_neg h]at hP;refine⟨?_,rfl⟩;simp only;omega
theorem zgF (A:Option Addr) (c B:Nat) (L:List Int) (k:Nat) (w:World) (hr:RdB w B A L) (hl:K.Bytes L) (hc:L.length<=c) (hn:L.length<=5000) (hk:k<L.length) (he:(T.piece (L.drop k)).2.2=0) :
  Calls Tryz.prog 86 #[.slice A L.length c,.int .i64 k] w fun e w'=>e=.returned (zci k (T.piece (L.drop k)))/\w=w':=by
 obtain⟨g,o,rfl,_,hcl⟩:=hr (by omega);have hcell:=hcl k hk;have hz:(L.drop k).getD 0 0=L.getD k 0:=by rw[Go.Proofs.YtcmhaemaophplaaGreat.L.cons_drop L k hk];rfl
 have H1:=aA (zaQ _ c B L [47,42] k w hr hl hc hn (by omega) (by decide));have H2:=aA (zaQ _ c B L [47,47] k w hr hl hc hn (by omega) (by decide));have H3:=aA (zaQ _ c B L [37,123] k w hr hl hc hn (by omega) (by decide));rw[show K.str [47,42]=⟨#[47,42]⟩ from rfl]at H1;rw[show K.str [47,47]=⟨#[47,47]⟩ from rfl]at H2;rw[show K.str [37,123]=⟨#[37,123]⟩ from rfl]at H3;have HPB:=aA (T.piece_blank (L.drop k));have HEL:=aA (T.piece_else (L.drop k));rw[hz]at HPB HEL;have HR:=aA hr;have HL:=aA hl;have HE:=aA he;have HZ:=aA hz;have hlb:=hl.drop k;clear hcl hr hl he hz;by_cases hb:L.getD k 0=32\/L.getD k 0=9\/L.getD k 0=10\/L.getD k 0=13
 ·have hp:=HPB.o hb;rw[hp];unfold zci;clear H1 H2 H3 HPB HEL hp HE hlb;generalize L.getD k 0=z at *;rcases hb with rfl|rfl|rfl|rfl
  all_goals
   go_enter Tryz.func86,Tryz.ntmps86
   go_wp2
   go_ret2
   exact⟨rfl,rfl⟩
 ·have n1:(L.getD k 0==32)=false:=by simpa using fun e=>hb (.inl e)
  have n2:(L.getD k 0==9)=false:=by simpa using fun e=>hb (.inr (.inl e))
  have n3:(L.getD k 0==10)=false:=by simpa using fun e=>hb (.inr (.inr (.inl e)))
  have n4:(L.getD k 0==13)=false:=by simpa using fun e=>hb (.inr (.inr (.inr e)))
  rcases hp1:T.pre (L.drop k) [47,42] with _|_
  ·rw[hp1]at H1;rcases hp2:T.pre (L.drop k) [47,47] with _|_
   ·rw[hp2]at H2;rcases hp3:T.pre (L.drop k) [37,123] with _|_
    ·rw[hp3]at H3;by_cases h60:L.getD k 0=60
     ·have hz1:(L.drop k).getD 0 0=60:=HZ.o.trans h60;have hpc:T.piece (L.drop k)=T.skip (T.line (L.drop k)) 1 [62]:=T.piece_60 _ hz1;have hll:=T.line_le (L.drop k);rw[List.length_drop]at hll
      have hlt:T.line (L.drop k)=(L.drop k).take (T.line (L.drop k)).length:=by
       unfold T.line;have hx:=T.ix_room (L.drop k) [10];split
       ·rw[List.length_take,Nat.min_eq_left (by have:=hx (by assumption);omega)]
       ·rw[List.take_length]
      have hmm:(L.take (k+(T.line (L.drop k)).length)).drop (k+1)=(T.line (L.drop k)).drop 1:=by
       have e:∀ll,(L.take (k+ll)).drop (k+1)=((L.drop k).take ll).drop 1:=fun ll=>by
        rw[List.drop_take,List.drop_take,List.drop_drop]
        congr 1
        omega
       exact(e _).trans (congrArg (List.drop 1) hlt.symm)
      have hq:=zb7 k (L.take (k+(T.line (L.drop k)).length)) 1 [62] _ rfl (T.line (L.drop k)) hmm (by rw[<-hpc];exact HE.o);have hv:=zaW (k:=k) hq.2 hq.1;rw[<-hpc]at hv;rw[hv];have HLN:=aA (zdy _ c B L k w HR.o HL.o hn (by omega));have hml:(L.take (k+(T.line (L.drop k)).length)).length=k+(T.line (L.drop k)).length:=by rw[List.length_take];omega
      have HP:=aA (zbY _ c B (L.take (k+(T.line (L.drop k)).length)) [62] (k+1) w (HR.o.take _) (HL.o.take _) (by rw[hml];omega) (by rw[hml];omega) (by omega) (by decide) (by decide));rw[hml,show K.str [62]=⟨#[62]⟩ from rfl,show((k+1:Nat):Int)=(k:Int)+1 by omega]at HP;have S1:=fun w=>zgy w (some ⟨g,o,none⟩) c L.length (k+(T.line (L.drop k)).length) (by omega);have q60:(L.getD k 0==60)=true:=by rw[h60];rfl
      generalize T.pastV (L.take (k+(T.line (L.drop k)).length)) [62] (k+1)=P at *;generalize k+(T.line (L.drop k)).length=m at *;clear hb HPB HEL hlb hpc hq HE hz1 hv hll hlt hmm hml hp1 hp2 hp3 h60 HZ;generalize L.getD k 0=z at *
      go_enter Tryz.func86,Tryz.ntmps86
      go_wp2_with fail
      refine H1.o.mono ?_;rintro _ w' ⟨rfl,rfl⟩;go_wp2_with fail
      refine H2.o.mono ?_;rintro _ w' ⟨rfl,rfl⟩;go_wp2_with fail
      refine H3.o.mono ?_;rintro _ w' ⟨rfl,rfl⟩;go_wp2_with fail
      refine HLN.o.mono ?_;rintro _ w' ⟨rfl,rfl⟩;go_wp2_with fail
      refine HP.o.mono ?_;rintro _ w' ⟨rfl,rfl⟩;go_wp2
      go_ret2
      exact⟨rfl,rfl⟩
     ·have q60:(L.getD k 0==60)=false:=by simpa using h60
      by_cases h123:L.getD k 0=123
      ·have hz1:(L.drop k).getD 0 0=123:=HZ.o.trans h123;have hpc:T.piece (L.drop k)=T.action (L.drop k):=T.piece_123 _ hz1;rcases hact:T.act ((L.drop k).length+1) (L.drop k) 0 with _|n
       ·exfalso
        have:=HE.o
        rw[hpc]at this;unfold T.action at this;rw[hact]at this;simp at this
       ·have hpc2:T.piece (L.drop k)=(0,n,0):=by rw[hpc];unfold T.action;rw[hact]
        have hv:zci k (T.piece (L.drop k))=.tuple #[.int .i64 ((k+n:Nat):Int),.bool true]:=zaW (by rw[hpc2]) (by rw[hpc2]);rw[hv];have HP:=aA (zeh _ c B L k n _ w HR.o hn hk h123 hact);have q123:(L.getD k 0==123)=true:=by rw[h123];rfl
        generalize k+n=P at *;clear hb HPB HEL hlb hpc hpc2 hact HE hz1 hv hp1 hp2 hp3 h60 h123 HZ;generalize L.getD k 0=z at *
        go_enter Tryz.func86,Tryz.ntmps86
        go_wp2_with fail
        refine H1.o.mono ?_;rintro _ w' ⟨rfl,rfl⟩;go_wp2_with fail
        refine H2.o.mono ?_;rintro _ w' ⟨rfl,rfl⟩;go_wp2_with fail
        refine H3.o.mono ?_;rintro _ w' ⟨rfl,rfl⟩;go_wp2_with fail
        refine HP.o.mono ?_;rintro _ w' ⟨rfl,rfl⟩;go_wp2
        go_ret2
        exact⟨rfl,rfl⟩
      ·have q123:(L.getD k 0==123)=false:=by simpa using h123
       have hv:=zeL (k:=k) (HEL.o hb hp1 hp2 hp3 h60 h123 HE.o);rw[hv];clear hb HPB HEL hlb HE hv hp1 hp2 hp3 h60 h123 HZ;generalize L.getD k 0=z at *
       go_enter Tryz.func86,Tryz.ntmps86
       go_wp2_with fail
       refine H1.o.mono ?_;rintro _ w' ⟨rfl,rfl⟩;go_wp2_with fail
       refine H2.o.mono ?_;rintro _ w' ⟨rfl,rfl⟩;go_wp2_with fail
       refine H3.o.mono ?_;rintro _ w' ⟨rfl,rfl⟩;go_wp2
       go_ret2
       exact⟨rfl,rfl⟩
    ·rw[hp3]at H3
     have hn37:T.pre (L.drop k) [37,37]=false:=by
      rcases hh:T.pre (L.drop k) [37,37] with _|_
      ·rfl
      ·have e1:=(T.pre_two _ _ _ hlb (by intro x hx;simp at hx;omega) hh).2;have e2:=(T.pre_two _ _ _ hlb (by intro x hx;simp at hx;omega) hp3).2;omega
     have hz1:=(T.pre_two _ _ _ hlb (by intro x hx;simp at hx;omega) hp3).1;have hpc:T.piece (L.drop k)=T.skip (L.drop k) 2 [37,125]:=by rw[T.piece_37 _ hz1];unfold T.percent;rw[if_neg (by rw[hn37];simp),if_pos hp3]
     have hq:=zb7 k L 2 [37,125] _ rfl (L.drop k) (by rw[List.drop_drop]) (by rw[<-hpc];exact HE.o);have hv:=zaW (k:=k) hq.2 hq.1;rw[<-hpc]at hv;rw[hv];have HP:=aA (zbY _ c B L [37,125] (k+2) w HR.o HL.o hc hn (by omega) (by decide) (by decide));rw[show K.str [37,125]=⟨#[37,125]⟩ from rfl,show((k+2:Nat):Int)=(k:Int)+2 by omega]at HP;clear hb HPB HEL hlb hpc hq HE hz1 hv hp1 hp2 hp3 hn37 HZ;generalize T.pastV L [37,125] (k+2)=P at *;generalize L.getD k 0=z at *
     go_enter Tryz.func86,Tryz.ntmps86
     go_wp2_with fail
     refine H1.o.mono ?_;rintro _ w' ⟨rfl,rfl⟩;go_wp2_with fail
     refine H2.o.mono ?_;rintro _ w' ⟨rfl,rfl⟩;go_wp2_with fail
     refine H3.o.mono ?_;rintro _ w' ⟨rfl,rfl⟩;go_wp2_with fail
     refine HP.o.mono ?_;rintro _ w' ⟨rfl,rfl⟩;go_wp2
     go_ret2
     exact⟨rfl,rfl⟩
   ·rw[hp2]at H2;have hz1:=(T.pre_two _ _ _ hlb (by intro x hx;simp at hx;omega) hp2).1;have hpc:T.piece (L.drop k)=(0,(T.line (L.drop k)).length,0):=by rw[T.piece_47 _ hz1];unfold T.comment;rw[if_neg (by rw[hp1];simp),if_pos hp2]
    have hv:zci k (T.piece (L.drop k))=.tuple #[.int .i64 ((k+(T.line (L.drop k)).length:Nat):Int),.bool true]:=zaW (by rw[hpc]) (by rw[hpc]);rw[hv];have HP:=aA (zdy _ c B L k w HR.o HL.o hn (by omega));generalize k+(T.line (L.drop k)).length=P at *;clear hb HPB HEL hlb hpc HE hz1 hv hp1 hp2 HZ;generalize L.getD k 0=z at *
    go_enter Tryz.func86,Tryz.ntmps86
    go_wp2_with fail
    refine H1.o.mono ?_;rintro _ w' ⟨rfl,rfl⟩;go_wp2_with fail
    refine H2.o.mono ?_;rintro _ w' ⟨rfl,rfl⟩;go_wp2_with fail
    refine HP.o.mono ?_;rintro _ w' ⟨rfl,rfl⟩;go_wp2
    go_ret2
    exact⟨rfl,rfl⟩
  ·rw[hp1]at H1;have hz1:=(T.pre_two _ _ _ hlb (by intro x hx;simp at hx;omega) hp1).1;have hpc:T.piece (L.drop k)=T.skip (L.drop k) 2 [42,47]:=by rw[T.piece_47 _ hz1];unfold T.comment;rw[if_pos hp1]
   have hq:=zb7 k L 2 [42,47] _ rfl (L.drop k) (by rw[List.drop_drop]) (by rw[<-hpc];exact HE.o);have hv:=zaW (k:=k) hq.2 hq.1;rw[<-hpc]at hv;rw[hv];have HP:=aA (zbY _ c B L [42,47] (k+2) w HR.o HL.o hc hn (by omega) (by decide) (by decide));rw[show K.str [42,47]=⟨#[42,47]⟩ from rfl,show((k+2:Nat):Int)=(k:Int)+2 by omega]at HP;clear hb HPB HEL hlb hpc hq HE hz1 hv hp1 HZ;generalize T.pastV L [42,47] (k+2)=P at *;generalize L.getD k 0=z at *
   go_enter Tryz.func86,Tryz.ntmps86
   go_wp2_with fail
   refine H1.o.mono ?_;rintro _ w' ⟨rfl,rfl⟩;go_wp2_with fail
   refine HP.o.mono ?_;rintro _ w' ⟨rfl,rfl⟩;go_wp2
   go_ret2
   exact⟨rfl,rfl⟩
theorem zgJ (z:Int) (w:World):Calls Tryz.prog 128 #[.int .u8 z] w fun e w'=>e=.returned (.int .i64 (if z=58 then 10 else if z=124 then 11 else if z=59 then 12 else 0))/\w=w':=by
 by_cases h1:z=58
 ·subst h1
  go_enter Tryz.func128,Tryz.ntmps128
  go_wp2;go_ret
  exact⟨rfl,rfl⟩
 ·by_cases h2:z=124
  ·subst h2
   go_enter Tryz.func128,Tryz.ntmps128
   go_wp2;go_ret
   exact⟨rfl,rfl⟩
  ·by_cases h3:z=59
   ·subst h3
    go_enter Tryz.func128,Tryz.ntmps128
    go_wp2;go_ret
    exact⟨rfl,rfl⟩
   ·rw[if_neg h1,if_neg h2,if_neg h3];have q1:(z==58)=false:=by simpa using h1
    have q2:(z==124)=false:=by simpa using h2
    have q3:(z==59)=false:=by simpa using h3
    clear h1 h2 h3
    go_enter Tryz.func128,Tryz.ntmps128
    go_wp2;go_ret
    exact⟨rfl,rfl⟩
theorem zfy (l m:List Int) (hl:K.Bytes l) (hm:K.Bytes m):((K.str l).toList==(K.str m).toList)=decide (l=m):=by
 rw[T.str_list,T.str_list,Bool.eq_iff_iff,beq_iff_eq,decide_eq_true_iff];exact⟨fun h=>K.bytes_inj hl hm h,fun h=>by rw[h]⟩
theorem zdv (l:List Int) (hl:K.Bytes l) (w:World):Calls Tryz.prog 127 #[.string (K.str l)] w fun e w'=>e=.returned (.int .i64 (T.wkind l))/\w=w':=by
 have b1:=zfy l [116,111,107,101,110] hl (by intro x hx;simp at hx;omega);have b2:=zfy l [108,101,102,116] hl (by intro x hx;simp at hx;omega);have b3:=zfy l [114,105,103,104,116] hl (by intro x hx;simp at hx;omega);have b4:=zfy l [110,111,110,97,115,115,111,99] hl (by intro x hx;simp at hx;omega);have b5:=zfy l [115,116,97,114,116] hl (by intro x hx;simp at hx;omega);have b6:=zfy l [112,114,101,99] hl (by intro x hx;simp at hx;omega);rw[show(K.str [116,111,107,101,110]).toList=[116,111,107,101,110] by rw[ByteArray.toList_eq];rfl]at b1;rw[show(K.str [108,101,102,116]).toList=[108,101,102,116] by rw[ByteArray.toList_eq];rfl]at b2;rw[show(K.str [114,105,103,104,116]).toList=[114,105,103,104,116] by rw[ByteArray.toList_eq];rfl]at b3;rw[show(K.str [110,111,110,97,115,115,111,99]).toList=[110,111,110,97,115,115,111,99] by rw[ByteArray.toList_eq];rfl]at b4;rw[show(K.str [115,116,97,114,116]).toList=[115,116,97,114,116] by rw[ByteArray.toList_eq];rfl]at b5;rw[show(K.str [112,114,101,99]).toList=[112,114,101,99] by rw[ByteArray.toList_eq];rfl]at b6;unfold T.wkind;clear hl;generalize hs:K.str l=st at *;clear hs
 go_enter Tryz.func127,Tryz.ntmps127
 go_wp2;all_goals go_ret
 all_goals exact⟨rfl,rfl⟩
namespace T
theorem skip_kind (l:List Int) (f:Nat) (s:List Int):(skip l f s).1=0:=by unfold skip;split <;> rfl
theorem zlU {z:Int} (h:head z=true):(97<=z/\z<=122)\/(65<=z/\z<=90)\/z=95:=by
 unfold head small at h;simp only[Bool.or_eq_true,Bool.and_eq_true,decide_eq_true_eq,beq_iff_eq]at h;omega
theorem piece_name (l:List Int) (h:head (l.getD 0 0)=true):piece l=name l:=by
 have hz:=zlU h;unfold piece;simp only;rw[if_neg (by omega),if_neg (by omega),if_neg (by omega),if_neg (by omega),if_neg (by omega),if_neg (by omega),if_neg (by omega),if_neg (by omega),if_neg (by omega)]
theorem piece_39 (l:List Int) (h:l.getD 0 0=39):piece l=literal l:=by
 unfold piece;simp only[h];rfl
theorem piece_sign (l:List Int) (h1:head (l.getD 0 0)=false) (h2:¬l.getD 0 0=39) (h3:¬l.getD 0 0=37) (he:(piece l).2.2=0) (hk:(piece l).1≠0):piece l=((if l.getD 0 0=58 then 10 else if l.getD 0 0=124 then 11 else if l.getD 0 0=59 then 12 else 0),1,0)/\(if l.getD 0 0=58 then(10:Int) else if l.getD 0 0=124 then 11 else if l.getD 0 0=59 then 12 else 0)≠0:=by
 have hns:nsize l=0:=by
  cases l with
  | nil=>rfl
  | cons z r=>rw[nsize_cons,if_neg];simpa using h1
 revert he hk
 unfold piece;simp only;split
 ·intro _ h;exact absurd rfl h
 split
 ·intro _ h;unfold comment at h;split at h
  ·exact absurd (skip_kind _ _ _) h
  split at h <;> exact absurd rfl h
 split
 ·intro _ h;exact absurd (skip_kind _ _ _) h
 split
 ·intro _ h;unfold action at h;split at h <;> exact absurd rfl h
 split
 ·exact fun _ _=>⟨rfl,by decide⟩
 split
 ·exact fun _ _=>⟨rfl,by decide⟩
 split
 ·exact fun _ _=>⟨rfl,by decide⟩
 ·intro h;unfold name at h;rw[if_pos hns]at h;simp at h
end T
def zd5 (L:List Int) (k:Nat) (x:T.P3):Value:=.tuple #[.agg #[.int .i64 x.1,.string (K.str (a7 x.1 ((L.drop k).take x.2.1))),.complex .f64 (Fl.fl (Pl.pos (L.take k)).1) (Fl.fl (Pl.pos (L.take k)).2)],.int .i64 ((k+x.2.1:Nat):Int),.int .i64 0]
theorem ziv (A:Option Addr) (c:Nat) (L:List Int) (k:Nat) (w:World) (hr:RdB w w.heap.size A L) (hl:K.Bytes L) (hc:L.length<=c) (hn:L.length<=2000) (hk:k<L.length) (he:(T.piece (L.drop k)).2.2=0) (hx:(T.piece (L.drop k)).1≠0)
  (h1:T.head (L.getD k 0)=false) (h2:¬L.getD k 0=39) (h3:¬L.getD k 0=37) :
  Calls Tryz.prog 88 #[.slice A L.length c,.int .i64 k] w fun e w'=>e=.returned (zd5 L k (T.piece (L.drop k)))/\Below w.heap.size w w':=by
 have hz:(L.drop k).getD 0 0=L.getD k 0:=by rw[Go.Proofs.YtcmhaemaophplaaGreat.L.cons_drop L k hk];rfl
 obtain⟨g,o,rfl,hgl,hcl⟩:=hr (by omega);have hcell:=hcl k hk;have hps:=T.piece_sign (L.drop k) (by rw[hz];exact h1) (by rw[hz];exact h2) (by rw[hz];exact h3) he hx;rw[hz]at hps;obtain⟨hpc,hkn⟩:=hps
 have hp37:T.pre (L.drop k) [37,37]=false:=by
  rcases hh:T.pre (L.drop k) [37,37] with _|_
  ·rfl
  ·exact absurd ((T.pre_two _ _ _ (hl.drop k) (by intro x hx;simp at hx;omega) hh).1) (by rw[hz];exact h3)
 have HAT:=aA (fun(w1:World) (h:Below w.heap.size w w1)=>zcw (some ⟨g,o,none⟩) c w.heap.size L k w1 (hr.below h (Nat.le_refl _)) hn (by omega));have H1:=aA (fun(w1:World) (h:Below w.heap.size w w1)=>zaQ (some ⟨g,o,none⟩) c w.heap.size L [37,37] k w1 (hr.below h (Nat.le_refl _)) hl hc (by omega) (by omega) (by decide));rw[hp37,show K.str [37,37]=⟨#[37,37]⟩ from rfl]at H1;have HF:=aA (zay (L.getD k 0));rw[h1]at HF;have HM:=aA (zgJ (L.getD k 0));have HB0:=aA (fun o=>((Below.refl w.heap.size w).alloc (Nat.le_refl _) o));have SC:=fun a w m X Y=>show(store a (.complex .f64 X Y) m).run Tryz.prog w=stored Tryz.prog w a (.complex .f64 X Y) m from run_store _ w a _ m rfl;have q39:(L.getD k 0==39)=false:=by simpa using h2
 have q37:(L.getD k 0==37)=false:=by simpa using h3
 rw[hpc];unfold zd5
 have ht:a7 (if L.getD k 0=58 then 10 else if L.getD k 0=124 then 11 else if L.getD k 0=59 then 12 else 0) ((L.drop k).take 1)=[]:=by
  unfold a7;rw[if_neg];split
  ·omega
  split
  ·omega
  split <;> omega
 simp only;rw[ht,show K.str []=⟨#[]⟩ from rfl];have qk:((if L.getD k 0=58 then(10:Int) else if L.getD k 0=124 then 11 else if L.getD k 0=59 then 12 else 0)==0)=false:=by simpa using hkn
 clear ht hpc hkn hp37 hcl hr hz h1 h2 h3 he hx;generalize (if L.getD k 0=58 then(10:Int) else if L.getD k 0=124 then 11 else if L.getD k 0=59 then 12 else 0)=xk at *;generalize L.getD k 0=z at *;generalize Fl.fl (Pl.pos (L.take k)).1=X at *;generalize Fl.fl (Pl.pos (L.take k)).2=Y at *
 go_enter Tryz.func88,Tryz.ntmps88
 go_wp2_with fail
 refine(HAT.o _ (HB0.o _)).mono ?_;rintro _ w' ⟨rfl,rfl⟩;go_wp2_with fail
 refine(HF.o _).mono ?_;rintro _ w' ⟨rfl,rfl⟩;go_wp2_with fail
 refine(H1.o _ ((HB0.o _).alloc (by simp) _)).mono ?_;rintro _ w' ⟨rfl,rfl⟩;go_wp2_with fail
 refine(HM.o _).mono ?_;rintro _ w' ⟨rfl,rfl⟩;go_wp2;refine bodyPost_ret (v:=.tuple #[.agg #[.int .i64 xk,.string ⟨#[]⟩,.complex .f64 X Y],.int .i64 ((k:Int)+1),.int .i64 0]) (by simp[results,Tryz.results88,go_sem]) rfl ⟨by rw[Int.natCast_add];rfl,?_⟩;exact(HB0.o _).alloc (by simp) _
theorem zix (A:Option Addr) (c:Nat) (L:List Int) (k:Nat) (w:World) (hr:RdB w w.heap.size A L) (hl:K.Bytes L) (hc:L.length<=c) (hn:L.length<=2000) (hk:k<L.length) (hp:T.pre (L.drop k) [37,37]=true) :
  Calls Tryz.prog 88 #[.slice A L.length c,.int .i64 k] w fun e w'=>e=.returned (zd5 L k (T.piece (L.drop k)))/\Below w.heap.size w w':=by
 have hz:(L.drop k).getD 0 0=L.getD k 0:=by rw[Go.Proofs.YtcmhaemaophplaaGreat.L.cons_drop L k hk];rfl
 have h37:=(T.pre_two _ _ _ (hl.drop k) (by intro x hx;simp at hx;omega) hp).1;have hpc:T.piece (L.drop k)=(9,2,0):=by rw[T.piece_37 _ h37];unfold T.percent;rw[if_pos hp]
 rw[hz]at h37;obtain⟨g,o,rfl,hgl,hcl⟩:=hr (by omega);have hcell:=hcl k hk;rw[h37]at hcell;have HAT:=aA (fun(w1:World) (h:Below w.heap.size w w1)=>zcw (some ⟨g,o,none⟩) c w.heap.size L k w1 (hr.below h (Nat.le_refl _)) hn (by omega));have H1:=aA (fun(w1:World) (h:Below w.heap.size w w1)=>zaQ (some ⟨g,o,none⟩) c w.heap.size L [37,37] k w1 (hr.below h (Nat.le_refl _)) hl hc (by omega) (by omega) (by decide));rw[hp,show K.str [37,37]=⟨#[37,37]⟩ from rfl]at H1;have HF:=aA (zay 37);rw[show T.head 37=false from rfl]at HF;have HB0:=aA (fun o=>((Below.refl w.heap.size w).alloc (Nat.le_refl _) o));have SC:=fun a w m X Y=>show(store a (.complex .f64 X Y) m).run Tryz.prog w=stored Tryz.prog w a (.complex .f64 X Y) m from run_store _ w a _ m rfl;rw[hpc];unfold zd5;simp only;rw[show a7 9 ((L.drop k).take 2)=[] from rfl,show K.str []=⟨#[]⟩ from rfl];clear hpc hp hcl hr hz h37;generalize Fl.fl (Pl.pos (L.take k)).1=X at *;generalize Fl.fl (Pl.pos (L.take k)).2=Y at *
 go_enter Tryz.func88,Tryz.ntmps88
 go_wp2_with fail
 refine(HAT.o _ (HB0.o _)).mono ?_;rintro _ w' ⟨rfl,rfl⟩;go_wp2_with fail
 refine(HF.o _).mono ?_;rintro _ w' ⟨rfl,rfl⟩;go_wp2_with fail
 refine(H1.o _ ((HB0.o _).alloc (by simp) _)).mono ?_;rintro _ w' ⟨rfl,rfl⟩;go_wp2;refine bodyPost_ret (v:=.tuple #[.agg #[.int .i64 9,.string ⟨#[]⟩,.complex .f64 X Y],.int .i64 ((k:Int)+2),.int .i64 0]) (by simp[results,Tryz.results88,go_sem]) rfl ⟨by rw[Int.natCast_add];rfl,?_⟩;exact(HB0.o _).alloc (by simp) _
theorem ziu (A:Option Addr) (c:Nat) (L:List Int) (k:Nat) (w:World) (hr:RdB w w.heap.size A L) (hl:K.Bytes L) (hc:L.length<=c) (hn:L.length<=2000) (hk:k<L.length) (he:(T.piece (L.drop k)).2.2=0) (hx:(T.piece (L.drop k)).1≠0) (h37:L.getD k 0=37) (hp:T.pre (L.drop k) [37,37]=false) :
  Calls Tryz.prog 88 #[.slice A L.length c,.int .i64 k] w fun e w'=>e=.returned (zd5 L k (T.piece (L.drop k)))/\Below w.heap.size w w':=by
 have hz:(L.drop k).getD 0 0=L.getD k 0:=by rw[Go.Proofs.YtcmhaemaophplaaGreat.L.cons_drop L k hk];rfl
 have hps:T.psize (L.drop k)=1+T.run T.small (L.drop (k+1)):=by unfold T.psize;rw[List.drop_drop]
 have hword:((L.drop k).take (T.psize (L.drop k))).drop 1=(L.drop (k+1)).take (T.run T.small (L.drop (k+1))):=by
  rw[hps,List.drop_take,List.drop_drop]
  congr 1
  omega
 have hpc:T.piece (L.drop k)=(T.wkind ((L.drop (k+1)).take (T.run T.small (L.drop (k+1)))),1+T.run T.small (L.drop (k+1)),0)/\T.wkind ((L.drop (k+1)).take (T.run T.small (L.drop (k+1))))≠0:=by
  rw[T.piece_37 _ (hz.trans h37)]at he hx ⊢;unfold T.percent at he hx ⊢;rw[if_neg (by rw[hp];simp)]at he hx ⊢;by_cases h3:T.pre (L.drop k) [37,123]=true
  ·rw[if_pos h3]at hx;exact absurd (T.skip_kind _ _ _) hx
  ·rw[if_neg h3]at he hx ⊢;rw[hword,hps]at he ⊢;by_cases h4:T.wkind ((L.drop (k+1)).take (T.run T.small (L.drop (k+1))))=0
   ·exfalso;simp[h4]at he
   ·exact⟨by simp[h4],h4⟩
 obtain⟨hpc,hkn⟩:=hpc;obtain⟨g,o,rfl,hgl,hcl⟩:=hr (by omega);have hcell:=hcl k hk;rw[h37]at hcell;have HC:=aA hcl;have hrl:=T.run_le T.small (L.drop (k+1));rw[List.length_drop]at hrl;have HAT:=aA (fun(w1:World) (h:Below w.heap.size w w1)=>zcw (some ⟨g,o,none⟩) c w.heap.size L k w1 (hr.below h (Nat.le_refl _)) hn (by omega));have H1:=aA (fun(w1:World) (h:Below w.heap.size w w1)=>zaQ (some ⟨g,o,none⟩) c w.heap.size L [37,37] k w1 (hr.below h (Nat.le_refl _)) hl hc (by omega) (by omega) (by decide));rw[hp,show K.str [37,37]=⟨#[37,37]⟩ from rfl]at H1;have HF:=aA (zay 37);rw[show T.head 37=false from rfl]at HF;have HCV:=aA (fun(o1 o2:Obj)=>zbi ((((hr.alloc (Nat.le_refl _) o1).alloc (by simp) o2).dropA hc (k+1)).take (T.run T.small (L.drop (k+1)))) ((hl.drop (k+1)).take _) (c-(k+1)));have HK:=aA (fun w=>zdv ((L.drop (k+1)).take (T.run T.small (L.drop (k+1)))) ((hl.drop _).take _) w);have HS:=aA (fun w=>za0 w (some ⟨g,o,none⟩) c L.length (k+1) (k+1+T.run T.small (L.drop (k+1))) (by omega) (by omega));rw[show k+1+T.run T.small (L.drop (k+1))-(k+1)=T.run T.small (L.drop (k+1)) by omega]at HS;have hlt2:((L.drop (k+1)).take (T.run T.small (L.drop (k+1)))).length=T.run T.small (L.drop (k+1)):=by rw[List.length_take,List.length_drop];omega
 rw[hlt2]at HCV;have HB0:=aA (fun o=>((Below.refl w.heap.size w).alloc (Nat.le_refl _) o));have SC:=fun a w m X Y=>show(store a (.complex .f64 X Y) m).run Tryz.prog w=stored Tryz.prog w a (.complex .f64 X Y) m from run_store _ w a _ m rfl;rw[hpc];unfold zd5;have hwb:=T.wkind_bd ((L.drop (k+1)).take (T.run T.small (L.drop (k+1))))
 have ht:a7 (T.wkind ((L.drop (k+1)).take (T.run T.small (L.drop (k+1))))) ((L.drop k).take (1+T.run T.small (L.drop (k+1))))=[]:=by
  have:=hwb.2.2 hkn
  unfold a7;rw[if_neg (by omega)]
 simp only;rw[ht,show K.str []=⟨#[]⟩ from rfl];have qk:(T.wkind ((L.drop (k+1)).take (T.run T.small (L.drop (k+1))))==0)=false:=by simpa using hkn
 have HRN:=aA (T.run_next T.small L);have HRE:=aA (T.run_end T.small L);clear hpc hp hcl hr hz h37 ht hkn hwb hword hps hlt2 he hx hl;generalize T.wkind ((L.drop (k+1)).take (T.run T.small (L.drop (k+1))))=xk at *;generalize K.str ((L.drop (k+1)).take (T.run T.small (L.drop (k+1))))=st at *;generalize hrun:T.run T.small (L.drop (k+1))=rn at *;have HRUN:=aA hrun;clear hrun;generalize Fl.fl (Pl.pos (L.take k)).1=X at *;generalize Fl.fl (Pl.pos (L.take k)).2=Y at *
 go_enter Tryz.func88,Tryz.ntmps88
 go_wp2_with fail
 refine(HAT.o _ (HB0.o _)).mono ?_;rintro _ w' ⟨rfl,rfl⟩;go_wp2_with fail
 refine(HF.o _).mono ?_;rintro _ w' ⟨rfl,rfl⟩;go_wp2_with fail
 refine(H1.o _ ((HB0.o _).alloc (by simp) _)).mono ?_;rintro _ w' ⟨rfl,rfl⟩;go_wp2_with fail
 go_loop [9] (fun vi=>∃(j:Nat),j<=L.length/\k+1<=j/\vi=.int .i64 j/\j+T.run T.small (L.drop j)=k+1+rn) (fun vi=>L.length-(intOf vi).toNat)
 case atStart=>exact⟨k+1,by omega,by omega,by go_num,by rw[HRUN.o]⟩
 case round =>
  obtain⟨j,hj,hkj,rfl,hrel⟩:=hrel;have HV:=aA hrel;clear hrel;by_cases hlt:j<L.length
  ·have hcj:=HC.o j hlt;have hrn:=HRN.o j hlt;by_cases hs:97<=L.getD j 0/\L.getD j 0<=122
   ·have hsm:T.small (L.getD j 0)=true:=by unfold T.small;simp;exact hs
    rw[hsm,if_pos rfl]at hrn;have HN:=aA hrn;obtain⟨hs1,hs2⟩:=hs;clear hsm hrn hcell;generalize L.getD j 0=z at *;go_wp2
    go_round
    case rel=>exact⟨j+1,by omega,by omega,by go_num,by have:=HV.o;have:=HN.o;omega⟩
    case measure=>simp[intOf];omega
   ·have hsm:T.small (L.getD j 0)=false:=by
     rcases hq:T.small (L.getD j 0) with _|_
     ·rfl
     ·exfalso;apply hs;unfold T.small at hq;simp at hq;exact hq
    rw[hsm]at hrn;have hje:k+1+rn=j:=by have:=HV.o;rw[hrn]at this;simp at this;omega
    have S1:∀w,(Instr.sliceAt 65 (.slice (some ⟨g,o,none⟩) L.length c) (some (.int .i64 ((k:Int)+1))) (some (.int .i64 j)) none).run Tryz.prog w=.ok (.slice (dropA (some ⟨g,o,none⟩) c (k+1)) rn (c-(k+1))) w:=fun w=>by
     have h:=HS.o w;rw[hje,show((k+1:Nat):Int)=(k:Int)+1 by omega]at h;exact h
    have C1:=HCV.o bL (.cells #[.int .i64 0,.string ⟨#[]⟩,.complex .f64 X Y] 157);unfold bL at C1;have HJ:=aA hje;clear hsm hrn hje hcell HS HCV;generalize dropA (some ⟨g,o,none⟩) c (k+1)=D at *;generalize c-(k+1)=c2 at *;generalize L.getD j 0=z at *;by_cases h97:97<=z
    ·have h122:¬z<=122:=fun h=>hs ⟨h97,h⟩;clear hs;go_wp2_with fail
     refine(HK.o _).mono ?_;rintro _ w' ⟨rfl,rfl⟩;go_wp2;refine bodyPost_ret (v:=.tuple #[.agg #[.int .i64 xk,.string ⟨#[]⟩,.complex .f64 X Y],.int .i64 j,.int .i64 0]) (by simp[results,Tryz.results88,go_sem]) rfl ⟨by rw[<-HJ.o,show k+(1+rn)=k+1+rn by omega],?_⟩;exact(HB0.o _).alloc (by simp) _
    ·clear hs;go_wp2_with fail
     refine(HK.o _).mono ?_;rintro _ w' ⟨rfl,rfl⟩;go_wp2;refine bodyPost_ret (v:=.tuple #[.agg #[.int .i64 xk,.string ⟨#[]⟩,.complex .f64 X Y],.int .i64 j,.int .i64 0]) (by simp[results,Tryz.results88,go_sem]) rfl ⟨by rw[<-HJ.o,show k+(1+rn)=k+1+rn by omega],?_⟩;exact(HB0.o _).alloc (by simp) _
  ·have hre:=HRE.o j (by omega);have hje:k+1+rn=j:=by have:=HV.o;rw[hre]at this;omega
   have S1:∀w,(Instr.sliceAt 65 (.slice (some ⟨g,o,none⟩) L.length c) (some (.int .i64 ((k:Int)+1))) (some (.int .i64 j)) none).run Tryz.prog w=.ok (.slice (dropA (some ⟨g,o,none⟩) c (k+1)) rn (c-(k+1))) w:=fun w=>by
    have h:=HS.o w;rw[hje,show((k+1:Nat):Int)=(k:Int)+1 by omega]at h;exact h
   have C1:=HCV.o bL (.cells #[.int .i64 0,.string ⟨#[]⟩,.complex .f64 X Y] 157);unfold bL at C1;have HJ:=aA hje;clear hre hje hcell HS HCV;generalize dropA (some ⟨g,o,none⟩) c (k+1)=D at *;generalize c-(k+1)=c2 at *;go_wp2_with fail
   refine(HK.o _).mono ?_;rintro _ w' ⟨rfl,rfl⟩;go_wp2;refine bodyPost_ret (v:=.tuple #[.agg #[.int .i64 xk,.string ⟨#[]⟩,.complex .f64 X Y],.int .i64 j,.int .i64 0]) (by simp[results,Tryz.results88,go_sem]) rfl ⟨by rw[<-HJ.o,show k+(1+rn)=k+1+rn by omega],?_⟩;exact(HB0.o _).alloc (by simp) _
theorem ziw (A:Option Addr) (c:Nat) (L:List Int) (k:Nat) (w:World) (hr:RdB w w.heap.size A L) (hl:K.Bytes L) (hc:L.length<=c) (hn:L.length<=2000) (hk:k<L.length) (he:(T.piece (L.drop k)).2.2=0) (hh:T.head (L.getD k 0)=true) :
  Calls Tryz.prog 88 #[.slice A L.length c,.int .i64 k] w fun e w'=>e=.returned (zd5 L k (T.piece (L.drop k)))/\Below w.heap.size w w':=by
 have hz:(L.drop k).getD 0 0=L.getD k 0:=by rw[Go.Proofs.YtcmhaemaophplaaGreat.L.cons_drop L k hk];rfl
 have hns:T.nsize (L.drop k)=1+T.run T.inName (L.drop (k+1)):=by
  rw[Go.Proofs.YtcmhaemaophplaaGreat.L.cons_drop L k hk,T.nsize_cons,if_pos hh];omega
 have hpc:T.piece (L.drop k)=(1,1+T.run T.inName (L.drop (k+1)),0)/\1+T.run T.inName (L.drop (k+1))<=20:=by
  rw[T.piece_name _ (by rw[hz];exact hh)]at he ⊢;unfold T.name at he ⊢;rw[hns]at he ⊢;rw[if_neg (by omega)]at he ⊢;by_cases h4:20<1+T.run T.inName (L.drop (k+1))
  ·exfalso;simp[h4]at he
  ·exact⟨by simp[h4],by omega⟩
 obtain⟨hpc,h20⟩:=hpc;obtain⟨g,o,rfl,hgl,hcl⟩:=hr (by omega);have hcell:=hcl k hk;have HC:=aA hcl;have hrl:=T.run_le T.inName (L.drop (k+1));rw[List.length_drop]at hrl;have HAT:=aA (fun(w1:World) (h:Below w.heap.size w w1)=>zcw (some ⟨g,o,none⟩) c w.heap.size L k w1 (hr.below h (Nat.le_refl _)) hn (by omega));have HF:=aA (zay (L.getD k 0));rw[hh]at HF;have HLT:=aA (fun j=>zdR (L.getD j 0));have HCV:=aA (fun(w1:World) (h:Below w.heap.size w w1)=>zbi (((hr.below h (Nat.le_refl _)).dropA hc k).take (1+T.run T.inName (L.drop (k+1)))) ((hl.drop k).take _) (c-k));have HS:=aA (fun w=>za0 w (some ⟨g,o,none⟩) c L.length k (k+(1+T.run T.inName (L.drop (k+1)))) (by omega) (by omega));rw[show k+(1+T.run T.inName (L.drop (k+1)))-k=1+T.run T.inName (L.drop (k+1)) by omega]at HS;have hlt2:((L.drop k).take (1+T.run T.inName (L.drop (k+1)))).length=1+T.run T.inName (L.drop (k+1)):=by rw[List.length_take,List.length_drop];omega
 rw[hlt2]at HCV;have HB0:=aA (fun o=>((Below.refl w.heap.size w).alloc (Nat.le_refl _) o));have SC:=fun a w m X Y=>show(store a (.complex .f64 X Y) m).run Tryz.prog w=stored Tryz.prog w a (.complex .f64 X Y) m from run_store _ w a _ m rfl;rw[hpc];unfold zd5;have ht:a7 1 ((L.drop k).take (1+T.run T.inName (L.drop (k+1))))=(L.drop k).take (1+T.run T.inName (L.drop (k+1))):=by unfold a7;rw[if_pos (.inl rfl)]
 simp only;rw[ht];have HRN:=aA (T.run_next T.inName L);have HRE:=aA (T.run_end T.inName L);clear hpc hcl hr hz ht hns hlt2 he hl hh;generalize K.str ((L.drop k).take (1+T.run T.inName (L.drop (k+1))))=st at *;generalize hrun:T.run T.inName (L.drop (k+1))=rn at *;have HRUN:=aA hrun;clear hrun;generalize Fl.fl (Pl.pos (L.take k)).1=X at *;generalize Fl.fl (Pl.pos (L.take k)).2=Y at *;generalize hzz:L.getD k 0=z at *;clear hzz
 go_enter Tryz.func88,Tryz.ntmps88
 go_wp2_with fail
 refine(HAT.o _ (HB0.o _)).mono ?_;rintro _ w' ⟨rfl,rfl⟩;go_wp2_with fail
 refine(HF.o _).mono ?_;rintro _ w' ⟨rfl,rfl⟩;go_wp2_with fail
 go_loop [9] (fun vi=>∃(j:Nat),j<=L.length/\k+1<=j/\vi=.int .i64 j/\j+T.run T.inName (L.drop j)=k+1+rn) (fun vi=>L.length-(intOf vi).toNat)
 case atStart=>exact⟨k+1,by omega,by omega,by go_num,by rw[HRUN.o]⟩
 case round =>
  obtain⟨j,hj,hkj,rfl,hrel⟩:=hrel;have HV:=aA hrel;clear hrel hcell;by_cases hlt:j<L.length
  ·have hcj:=HC.o j hlt;have hrn:=HRN.o j hlt;have HLj:=aA (HLT.o j);rcases hsm:T.inName (L.getD j 0) with _|_
   ·rw[hsm]at hrn HLj;have hje:k+(1+rn)=j:=by have:=HV.o;rw[hrn]at this;simp at this;omega
    have HJ:=aA hje;clear hsm hrn;generalize L.getD j 0=z2 at *;go_wp2_with fail
    refine(HLj.o _).mono ?_;rintro _ w' ⟨rfl,rfl⟩;have hgt:¬(j:Int)-(k:Int) > 20:=by have:=HJ.o;omega
    go_upto_region 10 with fail
    have hb5:Below w.heap.size w ((((w.alloc bL).alloc (.cells #[.int .i64 0,.string ⟨#[]⟩,.complex .f64 X Y] 157))).drew):=aB ((HB0.o bL).alloc (by simp) _) 1;unfold bL at hb5
    have S1:∀w,(Instr.sliceAt 65 (.slice (some ⟨g,o,none⟩) L.length c) (some (.int .i64 k)) (some (.int .i64 j)) none).run Tryz.prog w=.ok (.slice (dropA (some ⟨g,o,none⟩) c k) (1+rn) (c-k)) w:=fun w=>by
     have h:=HS.o w;rw[HJ.o]at h;exact h
    have CC:=fun y:Calm.On w.heap.size w=>HCV.o y.1 y.2;refine Calm.region_tree (fun x=>∃y:Calm.On w.heap.size w,x=y.1) (.one [0,1,2,3,4,5] 6 (.one [7] 8 (.fin []))) (by kernel_rfl) (by kernel_rfl) (fun _ _ d _ _ h=>by cases d <;> exact h) ⟨⟨_,hb5⟩,rfl⟩ ?_;simp only[Calm.wpT,Calm.wpSt,Calm.pickOps,List.getElem?_toArray,List.getElem?_cons_zero,List.getElem?_cons_succ];repeat (go_big_quiet_step (fail))
    refine wpQuiet_nil ?_;clear CC HCV HS S1 hb5;have HBE:=aA (fun o1 o2=>aB ((HB0.o o1).alloc (by simp) o2) 1);intro KK hKK;try rw[if_pos (by rfl)]
    go_wp2_with fail
    refine hKK _ _ ⟨⟨_,HBE.o _ _⟩,rfl⟩ (fun x=>∃y:Calm.On w.heap.size w,x=y.1) (fun _ h=>h) ⟨⟨_,HBE.o _ _⟩,rfl⟩ ?_;repeat (go_big_quiet_step (fail))
    refine wpQuiet_nil ?_;intro KK hKK;try rw[if_pos (by rfl)]
    go_wp2_with fail
    refine hKK _ _ ⟨⟨_,HBE.o _ _⟩,rfl⟩ (fun x=>∃y:Calm.On w.heap.size w,x=y.1) (fun _ h=>h) ⟨⟨_,HBE.o _ _⟩,rfl⟩ ?_;refine wpQuiet_nil ?_;go_wp2;exact bodyPost_ret (v:=.tuple #[.agg #[.int .i64 1,.string st,.complex .f64 X Y],.int .i64 j,.int .i64 0]) (by simp[results,Tryz.results88,go_sem]) rfl ⟨by rw[HJ.o],HBE.o _ _⟩
   ·rw[hsm,if_pos rfl]at hrn;rw[hsm]at HLj;have HN:=aA hrn;clear hsm hrn;generalize L.getD j 0=z2 at *;go_wp2_with fail
    refine(HLj.o _).mono ?_;rintro _ w' ⟨rfl,rfl⟩;go_wp2
    go_round
    case rel=>exact⟨j+1,by omega,by omega,by go_num,by have:=HV.o;have:=HN.o;omega⟩
    case measure=>simp[intOf];omega
  ·have hre:=HRE.o j (by omega);have hje:k+(1+rn)=j:=by have:=HV.o;rw[hre]at this;omega
   have HJ:=aA hje;have hgt:¬(j:Int)-(k:Int) > 20:=by omega
   clear hre hje;go_upto_region 10 with fail
   have hb5:Below w.heap.size w ((((w.alloc bL).alloc (.cells #[.int .i64 0,.string ⟨#[]⟩,.complex .f64 X Y] 157))).drew):=aB ((HB0.o bL).alloc (by simp) _) 1;unfold bL at hb5
   have S1:∀w,(Instr.sliceAt 65 (.slice (some ⟨g,o,none⟩) L.length c) (some (.int .i64 k)) (some (.int .i64 j)) none).run Tryz.prog w=.ok (.slice (dropA (some ⟨g,o,none⟩) c k) (1+rn) (c-k)) w:=fun w=>by
    have h:=HS.o w;rw[HJ.o]at h;exact h
   have CC:=fun y:Calm.On w.heap.size w=>HCV.o y.1 y.2;refine Calm.region_tree (fun x=>∃y:Calm.On w.heap.size w,x=y.1) (.one [0,1,2,3,4,5] 6 (.one [7] 8 (.fin []))) (by kernel_rfl) (by kernel_rfl) (fun _ _ d _ _ h=>by cases d <;> exact h) ⟨⟨_,hb5⟩,rfl⟩ ?_;simp only[Calm.wpT,Calm.wpSt,Calm.pickOps,List.getElem?_toArray,List.getElem?_cons_zero,List.getElem?_cons_succ];repeat (go_big_quiet_step (fail))
   refine wpQuiet_nil ?_;clear CC HCV HS S1 hb5;have HBE:=aA (fun o1 o2=>aB ((HB0.o o1).alloc (by simp) o2) 1);intro KK hKK;try rw[if_pos (by rfl)]
   go_wp2_with fail
   refine hKK _ _ ⟨⟨_,HBE.o _ _⟩,rfl⟩ (fun x=>∃y:Calm.On w.heap.size w,x=y.1) (fun _ h=>h) ⟨⟨_,HBE.o _ _⟩,rfl⟩ ?_;repeat (go_big_quiet_step (fail))
   refine wpQuiet_nil ?_;intro KK hKK;try rw[if_pos (by rfl)]
   go_wp2_with fail
   refine hKK _ _ ⟨⟨_,HBE.o _ _⟩,rfl⟩ (fun x=>∃y:Calm.On w.heap.size w,x=y.1) (fun _ h=>h) ⟨⟨_,HBE.o _ _⟩,rfl⟩ ?_;refine wpQuiet_nil ?_;go_wp2;exact bodyPost_ret (v:=.tuple #[.agg #[.int .i64 1,.string st,.complex .f64 X Y],.int .i64 j,.int .i64 0]) (by simp[results,Tryz.results88,go_sem]) rfl ⟨by rw[HJ.o],HBE.o _ _⟩
theorem zj8 (A:Option Addr) (c:Nat) (L:List Int) (k:Nat) (w:World) (hr:RdB w w.heap.size A L) (hl:K.Bytes L) (hc:L.length<=c) (hn:L.length<=2000) (hk:k<L.length) (he:(T.piece (L.drop k)).2.2=0) (h39:L.getD k 0=39) :
  Calls Tryz.prog 88 #[.slice A L.length c,.int .i64 k] w fun e w'=>e=.returned (zd5 L k (T.piece (L.drop k)))/\Below w.heap.size w w':=by
 have hz:(L.drop k).getD 0 0=L.getD k 0:=by rw[Go.Proofs.YtcmhaemaophplaaGreat.L.cons_drop L k hk];rfl
 have hpc:(T.isLit ((L.drop k).take 3)=true/\T.piece (L.drop k)=(2,3,0))\/(T.isLit ((L.drop k).take 3)=false/\T.isLit ((L.drop k).take 4)=true/\T.piece (L.drop k)=(2,4,0)):=by
  rw[T.piece_39 _ (hz.trans h39)]at he ⊢;unfold T.literal at he ⊢;rcases h3:T.isLit ((L.drop k).take 3) with _|_
  ·rcases h4:T.isLit ((L.drop k).take 4) with _|_
   ·exfalso
    rw[h3,h4]at he;simp only[Bool.false_eq_true,if_false]at he;split at he <;> simp at he
   ·right;refine⟨rfl,rfl,?_⟩;simp
  ·left;refine⟨rfl,?_⟩;simp
 obtain⟨g,o,rfl,hgl,hcl⟩:=hr (by omega);have hcell:=hcl k hk;rw[h39]at hcell;have HAT:=aA (fun(w1:World) (h:Below w.heap.size w w1)=>zcw (some ⟨g,o,none⟩) c w.heap.size L k w1 (hr.below h (Nat.le_refl _)) hn (by omega));have HF:=aA (zay 39);rw[show T.head 39=false from rfl]at HF;have HLT:=aA (fun n=>zcS ((L.drop k).take n) ((hl.drop k).take n))
 have HCV:=aA (fun(n:Nat) (hkn:k+n<=L.length) (w1:World) (h:Below w.heap.size w w1)=>(by
  have h1:=zbi (((hr.below h (Nat.le_refl _)).dropA hc k).take n) ((hl.drop k).take _) (c-k);rw[show((L.drop k).take n).length=n by rw[List.length_take,List.length_drop];omega]at h1;exact h1:(convert 65 9 (.slice (dropA (some ⟨g,o,none⟩) c k) n (c-k))).run Tryz.prog w1=.ok (.string (K.str ((L.drop k).take n))) w1))
 have HS:=aA (fun(n:Nat) (hkn:k+n<=L.length) (w1:World)=>(by
  have h1:=za0 w1 (some ⟨g,o,none⟩) c L.length k (k+n) (by omega) (by omega);rw[show k+n-k=n by omega,Int.natCast_add]at h1;exact h1:(Instr.sliceAt 65 (.slice (some ⟨g,o,none⟩) L.length c) (some (.int .i64 k)) (some (.int .i64 ((k:Int)+(n:Int)))) none).run Tryz.prog w1=.ok (.slice (dropA (some ⟨g,o,none⟩) c k) n (c-k)) w1))
 have HB0:=aA (fun o=>((Below.refl w.heap.size w).alloc (Nat.le_refl _) o));have SC:=fun a w m X Y=>show(store a (.complex .f64 X Y) m).run Tryz.prog w=stored Tryz.prog w a (.complex .f64 X Y) m from run_store _ w a _ m rfl
 have hov:∀n,zd5 L k (2,n,0)=.tuple #[.agg #[.int .i64 2,.string (K.str ((L.drop k).take n)),.complex .f64 (Fl.fl (Pl.pos (L.take k)).1) (Fl.fl (Pl.pos (L.take k)).2)],.int .i64 ((k:Int)+n),.int .i64 0]:=fun n=>by
  unfold zd5 a7;simp
 have HPV:Hid ((T.isLit ((L.drop k).take 3)=true->zd5 L k (T.piece (L.drop k))=.tuple #[.agg #[.int .i64 2,.string (K.str ((L.drop k).take 3)),.complex .f64 (Fl.fl (Pl.pos (L.take k)).1) (Fl.fl (Pl.pos (L.take k)).2)],.int .i64 ((k:Int)+3),.int .i64 0])/\(T.isLit ((L.drop k).take 3)=false->T.isLit ((L.drop k).take 4)=true->zd5 L k (T.piece (L.drop k))=.tuple #[.agg #[.int .i64 2,.string (K.str ((L.drop k).take 4)),.complex .f64 (Fl.fl (Pl.pos (L.take k)).1) (Fl.fl (Pl.pos (L.take k)).2)],.int .i64 ((k:Int)+4),.int .i64 0])):=aA (by
  refine⟨fun h=>?_,fun h h'=>?_⟩
  ·rcases hpc with⟨_,e⟩|⟨e1,_,_⟩
   ·rw[e];exact hov 3
   ·rw[h]at e1;cases e1
  ·rcases hpc with⟨e1,_⟩|⟨_,_,e⟩
   ·rw[h]at e1;cases e1
   ·rw[e];exact hov 4)
 have HB4:Hid (T.isLit ((L.drop k).take 3)=false->T.isLit ((L.drop k).take 4)=true):=aA (fun h=>by
  rcases hpc with⟨e1,_⟩|⟨_,e,_⟩
  ·rw[h]at e1;cases e1
  ·exact e)
 clear hpc hcl hr hz he hl h39 hov;generalize zd5 L k (T.piece (L.drop k))=V at *;generalize Fl.fl (Pl.pos (L.take k)).1=X at *;generalize Fl.fl (Pl.pos (L.take k)).2=Y at *
 go_enter Tryz.func88,Tryz.ntmps88
 go_wp2_with fail
 refine(HAT.o _ (HB0.o _)).mono ?_;rintro _ w' ⟨rfl,rfl⟩;go_wp2_with fail
 refine(HF.o _).mono ?_;rintro _ w' ⟨rfl,rfl⟩;go_wp2_with fail
 go_loop [10] (fun vi=>∃(n:Nat),(n=3\/(n=4/\T.isLit ((L.drop k).take 3)=false))/\vi=.int .i64 n) (fun vi=>5-(intOf vi).toNat)
 case atStart=>exact⟨3,.inl rfl,rfl⟩
 case round =>
  clear hcell;obtain⟨n,hnn,rfl⟩:=hrel;rcases hnn with rfl|⟨rfl,h3⟩
  ·rcases h3:T.isLit ((L.drop k).take 3) with _|_
   ·clear HPV
    have hlen4:k+3<=L.length:=by
     have h1:=T.isLit_len (HB4.o h3);rw[List.length_take,List.length_drop]at h1;omega
    have C1:=HCV.o 3 hlen4 (((w.alloc bL).alloc (.cells #[.int .i64 0,.string ⟨#[]⟩,.complex .f64 X Y] 157))) ((HB0.o bL).alloc (by simp) _);unfold bL at C1;have S1:∀w,(Instr.sliceAt 65 (.slice (some ⟨g,o,none⟩) L.length c) (some (.int .i64 k)) (some (.int .i64 ((k:Int)+3))) none).run Tryz.prog w=.ok (.slice (dropA (some ⟨g,o,none⟩) c k) 3 (c-k)) w:=HS.o 3 hlen4;have HLj:=aA (HLT.o 3);rw[h3]at HLj;have H3:=aA h3;have hl3:¬(k:Int)+3 > (L.length:Int):=by omega
    clear h3;generalize hst:K.str ((L.drop k).take 3)=st at *;clear hst;go_wp2_with fail
    refine(HLj.o _).mono ?_;rintro _ w' ⟨rfl,rfl⟩;go_wp2
    go_round
    case rel=>exact⟨4,by simp,by go_num⟩
    case measure=>simp[intOf]
   ·have hA:=h3;clear h3 HB4
    have hlen:k+3<=L.length:=by
     have h1:=T.isLit_len hA;rw[List.length_take,List.length_drop]at h1;omega
    have hV:=HPV.o.1 hA;have C1:=HCV.o 3 hlen (((w.alloc bL).alloc (.cells #[.int .i64 0,.string ⟨#[]⟩,.complex .f64 X Y] 157))) ((HB0.o bL).alloc (by simp) _);unfold bL at C1;have S1:∀w,(Instr.sliceAt 65 (.slice (some ⟨g,o,none⟩) L.length c) (some (.int .i64 k)) (some (.int .i64 ((k:Int)+3))) none).run Tryz.prog w=.ok (.slice (dropA (some ⟨g,o,none⟩) c k) 3 (c-k)) w:=HS.o 3 hlen;have HLj:=aA (HLT.o 3);rw[hA]at HLj;have HV:=aA hV;have hl3:¬(k:Int)+3 > (L.length:Int):=by omega
    clear hA hV;go_wp2_with fail
    refine(HLj.o _).mono ?_;rintro _ w' ⟨rfl,rfl⟩;go_upto_region 17 with fail
    have hb5:Below w.heap.size w ((((w.alloc bL).alloc (.cells #[.int .i64 0,.string ⟨#[]⟩,.complex .f64 X Y] 157))).drew):=aB ((HB0.o bL).alloc (by simp) _) 1;unfold bL at hb5;have CC:=fun y:Calm.On w.heap.size w=>HCV.o 3 hlen y.1 y.2;refine Calm.region_tree (fun x=>∃y:Calm.On w.heap.size w,x=y.1) (.one [0,1,2,3,4,5,6,7] 8 (.one [9] 10 (.fin []))) (by kernel_rfl) (by kernel_rfl) (fun _ _ d _ _ h=>by cases d <;> exact h) ⟨⟨_,hb5⟩,rfl⟩ ?_;simp only[Calm.wpT,Calm.wpSt,Calm.pickOps,List.getElem?_toArray,List.getElem?_cons_zero,List.getElem?_cons_succ];repeat (go_big_quiet_step (fail))
    refine wpQuiet_nil ?_;clear CC HCV HS S1 hb5 C1;have HBE:=aA (fun o1 o2=>aB ((HB0.o o1).alloc (by simp) o2) 1);intro KK hKK;try rw[if_pos (by rfl)]
    go_wp2_with fail
    refine hKK _ _ ⟨⟨_,HBE.o _ _⟩,rfl⟩ (fun x=>∃y:Calm.On w.heap.size w,x=y.1) (fun _ h=>h) ⟨⟨_,HBE.o _ _⟩,rfl⟩ ?_;repeat (go_big_quiet_step (fail))
    refine wpQuiet_nil ?_;intro KK hKK;try rw[if_pos (by rfl)]
    go_wp2_with fail
    refine hKK _ _ ⟨⟨_,HBE.o _ _⟩,rfl⟩ (fun x=>∃y:Calm.On w.heap.size w,x=y.1) (fun _ h=>h) ⟨⟨_,HBE.o _ _⟩,rfl⟩ ?_;refine wpQuiet_nil ?_;go_wp2;exact bodyPost_ret (v:=.tuple #[.agg #[.int .i64 2,.string (K.str ((L.drop k).take 3)),.complex .f64 X Y],.int .i64 ((k:Int)+3),.int .i64 0]) (by simp[results,Tryz.results88,go_sem]) rfl ⟨by rw[HV.o],HBE.o _ _⟩
  ·have hA:=HB4.o h3;clear HB4
   have hlen:k+4<=L.length:=by
    have h1:=T.isLit_len hA;rw[List.length_take,List.length_drop]at h1;rcases h1 with h1|h1
    ·exfalso
     have e3:(L.drop k).take 3=L.drop k:=List.take_of_length_le (by rw[List.length_drop];omega);have e4:(L.drop k).take 4=L.drop k:=List.take_of_length_le (by rw[List.length_drop];omega);rw[e3]at h3;rw[e4]at hA;rw[h3]at hA;cases hA
    ·omega
   have hV:=HPV.o.2 h3 hA;have C1:=HCV.o 4 hlen (((w.alloc bL).alloc (.cells #[.int .i64 0,.string ⟨#[]⟩,.complex .f64 X Y] 157))) ((HB0.o bL).alloc (by simp) _);unfold bL at C1;have S1:∀w,(Instr.sliceAt 65 (.slice (some ⟨g,o,none⟩) L.length c) (some (.int .i64 k)) (some (.int .i64 ((k:Int)+4))) none).run Tryz.prog w=.ok (.slice (dropA (some ⟨g,o,none⟩) c k) 4 (c-k)) w:=HS.o 4 hlen;have HLj:=aA (HLT.o 4);rw[hA]at HLj;have HV:=aA hV;have hl3:¬(k:Int)+4 > (L.length:Int):=by omega
   clear hA hV h3;go_wp2_with fail
   refine(HLj.o _).mono ?_;rintro _ w' ⟨rfl,rfl⟩;go_upto_region 17 with fail
   have hb5:Below w.heap.size w ((((w.alloc bL).alloc (.cells #[.int .i64 0,.string ⟨#[]⟩,.complex .f64 X Y] 157))).drew):=aB ((HB0.o bL).alloc (by simp) _) 1;unfold bL at hb5;have CC:=fun y:Calm.On w.heap.size w=>HCV.o 4 hlen y.1 y.2;refine Calm.region_tree (fun x=>∃y:Calm.On w.heap.size w,x=y.1) (.one [0,1,2,3,4,5,6,7] 8 (.one [9] 10 (.fin []))) (by kernel_rfl) (by kernel_rfl) (fun _ _ d _ _ h=>by cases d <;> exact h) ⟨⟨_,hb5⟩,rfl⟩ ?_;simp only[Calm.wpT,Calm.wpSt,Calm.pickOps,List.getElem?_toArray,List.getElem?_cons_zero,List.getElem?_cons_succ];repeat (go_big_quiet_step (fail))
   refine wpQuiet_nil ?_;clear CC HCV HS S1 hb5 C1;have HBE:=aA (fun o1 o2=>aB ((HB0.o o1).alloc (by simp) o2) 1);intro KK hKK;try rw[if_pos (by rfl)]
   go_wp2_with fail
   refine hKK _ _ ⟨⟨_,HBE.o _ _⟩,rfl⟩ (fun x=>∃y:Calm.On w.heap.size w,x=y.1) (fun _ h=>h) ⟨⟨_,HBE.o _ _⟩,rfl⟩ ?_;repeat (go_big_quiet_step (fail))
   refine wpQuiet_nil ?_;intro KK hKK;try rw[if_pos (by rfl)]
   go_wp2_with fail
   refine hKK _ _ ⟨⟨_,HBE.o _ _⟩,rfl⟩ (fun x=>∃y:Calm.On w.heap.size w,x=y.1) (fun _ h=>h) ⟨⟨_,HBE.o _ _⟩,rfl⟩ ?_;refine wpQuiet_nil ?_;go_wp2;exact bodyPost_ret (v:=.tuple #[.agg #[.int .i64 2,.string (K.str ((L.drop k).take 4)),.complex .f64 X Y],.int .i64 ((k:Int)+4),.int .i64 0]) (by simp[results,Tryz.results88,go_sem]) rfl ⟨by rw[HV.o],HBE.o _ _⟩
theorem zii (A:Option Addr) (c:Nat) (L:List Int) (k:Nat) (w:World) (hr:RdB w w.heap.size A L) (hl:K.Bytes L) (hc:L.length<=c) (hn:L.length<=2000) (hk:k<L.length) (he:(T.piece (L.drop k)).2.2=0) (hx:(T.piece (L.drop k)).1≠0) :
  Calls Tryz.prog 88 #[.slice A L.length c,.int .i64 k] w fun e w'=>e=.returned (zd5 L k (T.piece (L.drop k)))/\Below w.heap.size w w':=by
 rcases hh:T.head (L.getD k 0) with _|_
 ·by_cases h39:L.getD k 0=39
  ·exact zj8 A c L k w hr hl hc hn hk he h39
  ·by_cases h37:L.getD k 0=37
   ·rcases hp:T.pre (L.drop k) [37,37] with _|_
    ·exact ziu A c L k w hr hl hc hn hk he hx h37 hp
    ·exact zix A c L k w hr hl hc hn hk hp
   ·exact ziv A c L k w hr hl hc hn hk he hx hh h39 h37
 ·exact ziw A c L k w hr hl hc hn hk he hh
end Go.Proofs.YtcmhaemaophplaaGreat
