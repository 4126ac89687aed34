/- Part of the proofs over this program: MovesL, WalkMoves15. -/
import Derived.Test.YtabmfpgpkbndeaaGreatKAR
import Derived.Test.YtabmfpgpkbndeaaGreatKAS
namespace Go.Proofs.YtabmfpgpkbndeaaGreat
set_option maxRecDepth 100000
set_option maxHeartbeats 40000000
open Go.RowKit
namespace Au
structure MovS (G:Gm.Gr) (ss:List StT) (q:Nat) (x:StT):Prop where
 cl:closL G x.1=clo G x.1
 it:∀y∈x.1,isI G y=true
 mp:x.2.map (·.1)=(syms G).filter fun s=>mv G (clo G x.1) s != []
 ed:∀i (h:i<x.2.length),∃t:Nat,∃ht:t<ss.length,(x.2[i]).2=(t:Int)∧(ss[t]).1=mv G (clo G x.1) (x.2[i]).1
theorem bldS_mov {G:Gm.Gr} {p:List (List It)×List (List (Int×Int))} (hb:Gm.isB G=true) (hk:bld G=some p) (q:Nat) (hq:q<(bldS G).length):MovS G (bldS G) q (bldS G)[q]:=by
 obtain⟨K,E⟩:=p
 have hs:=(bld_ok hb hk).2
 obtain⟨hi,hl,h3⟩:=bld_inv hk
 have hr:=Gm.isB_right hb
 have hz:(bldS G).length=K.length:=by rw[hs,List.length_zip,hl,Nat.min_self]
 have h1:∀i (h:i<(bldS G).length),∃(a:i<K.length) (b:i<E.length),(bldS G)[i]=(K[i],E[i]):=fun i h=>by
  refine⟨by omega,by omega,?_⟩
  rw[List.getElem_of_eq hs,List.getElem_zip]
 obtain⟨a,b,e⟩:=h1 q hq
 have hgd:K.getD q []=K[q]:=by rw[List.getD_eq_getElem?_getD,List.getElem?_eq_getElem a];rfl
 have hit:=(hi.it _ (List.getElem_mem a)).2
 have hed:=hi.ed q b
 rw[hgd]at hed
 rw[e]
 refine⟨?_,hit,hed.1,fun i h=>?_⟩
 ·unfold closL
  rw[if_pos hr]
  have:(K[q]).filter (isI G)=K[q]:=List.filter_eq_self.2 hit
  rw[this]
 ·obtain⟨t,e1,e2⟩:=hed.2 _ (List.getElem_mem h)
  obtain⟨ht,e3⟩:=List.getElem?_eq_some_iff.1 e2
  have ht2:t<(bldS G).length:=by omega
  refine⟨t,ht2,e1,?_⟩
  obtain⟨_,_,e4⟩:=h1 t ht2
  rw[e4];exact e3
def cnt (G:Gm.Gr) (l:List It) (es:List (Int×Int)) (i:Nat):Nat:=((es.take i).map fun e=>(mv G l e.1).length).sum
theorem cnt_zero (G:Gm.Gr) (l:List It) (es:List (Int×Int)):cnt G l es 0=0:=by simp[cnt]
theorem cnt_step {G:Gm.Gr} {l:List It} {es:List (Int×Int)} {i:Nat} (h:i<es.length):cnt G l es (i+1)=cnt G l es i+(mv G l (es[i]).1).length:=by
 unfold cnt
 rw[List.take_succ_eq_append_getElem h,List.map_append,List.sum_append]
 simp
theorem zhx {G:Gm.Gr} {l:List It} {es:List (Int×Int)} (i:Nat):cnt G l es i≤cnt G l es (i+1):=by
 by_cases h:i<es.length
 ·rw[cnt_step h];omega
 ·unfold cnt
  rw[List.take_of_length_le (by omega),List.take_of_length_le (by omega)];exact Nat.le_refl _
theorem cnt_le {G:Gm.Gr} {l:List It} {es:List (Int×Int)} {i j:Nat} (h:i≤j):cnt G l es i≤cnt G l es j:=by
 induction h with
 | refl=>exact Nat.le_refl _
 | step _ ih=>exact Nat.le_trans ih (zhx _)
def cnx (G:Gm.Gr) (l:List It) (i:Nat):Nat:=((l.take i).filter fun x=>(nx G x).isSome).length
theorem cnx_zero (G:Gm.Gr) (l:List It):cnx G l 0=0:=by simp[cnx]
theorem cnx_step {G:Gm.Gr} {l:List It} {i:Nat} (h:i<l.length):cnx G l (i+1)=cnx G l i+if(nx G l[i]).isSome=true then 1 else 0:=by
 unfold cnx
 rw[List.take_succ_eq_append_getElem h,List.filter_append,List.length_append,List.filter_cons]
 split <;> simp
theorem cnx_le {G:Gm.Gr} {l:List It} (i:Nat):cnx G l i≤l.length:=by
 refine Nat.le_trans (List.length_filter_le _ _) ?_
 rw[List.length_take];omega
theorem cnt_cnx {G:Gm.Gr} (hok:Gm.Ok G) {x:StT} {ss:List StT} {q:Nat} (h:MovS G ss q x):cnt G (clo G x.1) x.2 x.2.length=cnx G (clo G x.1) (clo G x.1).length:=by
 unfold cnt cnx
 rw[List.take_length,List.take_length,←zhH (zeV G) (fun y hy s hs=>nx_in hok (clo_is hy) hs),←zgT,←h.mp,List.map_map]
 rfl
theorem mv_back {G:Gm.Gr} (hok:Gm.Ok G) (hr:Gm.right G=true) {l:List It} (hl:∀x∈l,isI G x=true) {s:Int} {y:It} (hy:y∈mv G l s):nextO G (y.1,y.2-1)=some s∧1≤y.2∧y.2≤7:=by
 obtain⟨x,hx,hs,rfl⟩:=zhN.1 hy
 have hi:=hl x hx
 have h1:=isI_iff.1 hi
 have h6:=sy_le hok (rls_mem.2 ⟨h1.1.1,h1.1.2⟩)
 have e:((x.1,x.2+1).1,(x.1,x.2+1).2-1)=x:=by
  show(x.1,x.2+1-1)=x
  rw[Int.add_sub_cancel]
 rw[e]
 refine⟨?_,?_,?_⟩
 ·unfold nextO
  rw[if_pos hr,nxP_is hi,hs]
 ·show 1≤x.2+1
  omega
 ·show x.2+1≤7
  omega
end Au
theorem zcu (v:Value) (G:Gm.Gr) (at0:Nat) (w:World) (hg:aT w w.heap.size v G) (hf:Gm.Fit G) (hat:at0≤65535) :
  Calls Tryz.prog 7 #[v,.int .u16 at0] w fun e w'=>e=.returned (.bool true)∧Below w.heap.size w w':=by
 have HGG:=aA (fun(x:World) (h:Below w.heap.size w x)=>hg.below h (Nat.le_refl _))
 have HAL:=aA (fun(x:World)=>zaD x)
 have TG:=aA (fun(x:World) (h:Below w.heap.size w x)=>zba v G w.heap.size x (HGG.out x h) h.size)
 have TA:=aA (fun(x:World) (h:Below w.heap.size w x)=>zaR v G w.heap.size x (HGG.out x h) hf h.size)
 have TC:=aA (fun(k:List Au.It) (A':Option Addr) (c' B':Nat) (x:World) (h:Below w.heap.size w x) (hr:RdQ 2 prF x B' A' k) (hB:B'≤x.heap.size) (hin:∀x∈k,Gm.In x.1∧Gm.In x.2) (hk:k.length≤1000)=>zck v G w.heap.size k A' c' B' x (HGG.out x h) hf h.size hr hB hin hk)
 have TN:=aA (fun(z:Au.It) (x:World) (h:Below w.heap.size w x)=>zb2 v G w.heap.size z x (HGG.out x h) hf h.size)
 obtain⟨A0,c0,A1,c1,A2,c2,rfl,_⟩:=hg
 have HQ0:=aA (aZ.start 26 w #[.slice A0 G.ts.length c0,.slice A1 G.ns.length c1,.slice A2 G.rs.length c2,.int .i64 G.st])
 have hat0:(0:Int)≤(at0:Int):=by omega
 have hat1:(at0:Int)≤65535:=by omega
 clear hf
 go_enter Tryz.func7,Tryz.ntmps7
 go_wp2_with fail
 refine(HAL.out _).mono ?_;rintro _ w1 ⟨rfl,hb1⟩
 have HQ1:=aA (HQ0.out.on hb1)
 have x0:=HQ1.out.c 0 _ rfl
 have x1:=HQ1.out.c 1 _ rfl
 have x2:=HQ1.out.c 2 _ rfl
 have x3:=HQ1.out.c 3 _ rfl
 clear hb1
 cases hgr:Gm.great G with
 | true =>
  rw[hgr]at TG
  go_wp2_with fail
  refine(TG.out _ HQ1.out.below).mono ?_;rintro _ w2 ⟨rfl,hb2⟩
  have HQ2:=aA (HQ1.out.on hb2)
  clear hb2
  go_wp2
  go_ret
  exact⟨rfl,HQ2.out.below⟩
 | false =>
  rw[hgr]at TG
  go_upto_region 5 with fail
  refine(TG.out _ HQ1.out.below).mono ?_;rintro _ w2 ⟨rfl,hb2⟩
  have HQ2:=aA (HQ1.out.on hb2)
  clear x0 x1 x2 x3 hb2 TG
  have x0:=HQ2.out.c 0 _ rfl
  have x1:=HQ2.out.c 1 _ rfl
  have x2:=HQ2.out.c 2 _ rfl
  have x3:=HQ2.out.c 3 _ rfl
  by_cases hE:Au.bldE G=0
  ·obtain⟨K,E,hb,hk⟩:=Au.bldE_iff.1 hE
   have hok:=Gm.right_ok.1 (Gm.isB_right hb)
   have HOK:=aA hok
   have HRT:=aA (Gm.isB_right hb)
   have HO:=aA (Au.bldS_once hb hk)
   have HMV:=aA (fun(q:Nat) (hq:q<(Au.bldS G).length)=>Au.bldS_mov hb hk q hq)
   have HE:=aA hE
   clear hgr hb hk hE hok
   go_wp2_with fail
   refine(TA.out w2 HQ2.out.below).mono ?_;rintro _ w3 ⟨A,c,rfl,_,_,hr3,hb3⟩
   rw[HE.out]
   have HR3:=aA hr3
   have HQ3:=aA (HQ2.out.on hb3)
   have hn0:0<(Au.bldS G).length:=HO.out.ne
   have hn3:(Au.bldS G).length≤300:=HO.out.le
   generalize Au.bldS G=ss at *
   clear x0 x1 x2 x3 hr3 hb3 TA HE
   have hI0:(0:Int)<(ss.length:Int):=by omega
   have hz0:((ss.length:Int)==0)=false:=by rw[beq_eq_false_iff_ne];omega
   have hI3:(ss.length:Int)≤300:=by omega
   obtain⟨q,hq⟩:∃q,q=at0 % ss.length:=⟨_,rfl⟩
   have hql:q<ss.length:=by rw[hq];exact Nat.mod_lt _ hn0
   have hmd:Int.tmod (at0:Int) (ss.length:Int)=(q:Int):=by rw[Int.tmod_eq_emod_of_nonneg (by omega),hq,Int.natCast_emod]
   have hmd2:(at0:Int) % (ss.length:Int)=(q:Int):=by rw[←hmd,Int.tmod_eq_emod_of_nonneg (by omega)]
   have hqI:(q:Int)<(ss.length:Int):=by omega
   have HM:=aA (HMV.out q hql)
   have HMS:=aA (HO.out.ms _ (List.getElem_mem hql))
   clear hq
   obtain⟨g,o,rfl,hgB,hc⟩:=HR3.out (by omega)
   obtain⟨⟨Ak,ck,k1,_,_,hrk⟩,⟨Ae,ce,k2,_,_,hre⟩⟩:=hc q hql
   have HCC:=aA hc
   have HGB:=aA hgB
   have HRK:=aA hrk
   have HRE:=aA hre
   generalize ss[q]=x at *
   obtain⟨kr,es⟩:=x
   simp only at k1 k2 HRK HRE HMS
   have HKL:Hid (kr.length≤287):=aA HMS.out.1
   have HEL:Hid (es.length≤64):=aA HMS.out.2
   have hkI:(kr.length:Int)≤287:=by have:=HKL.out;omega
   have heI:(es.length:Int)≤64:=by have:=HEL.out;omega
   have HKI:Hid (∀y∈kr,Gm.In y.1∧Gm.In y.2):=aA (fun y hy=>by
    have h1:=Au.isI_iff.1 (HM.out.it y hy)
    have h6:=Au.sy_le HOK.out (Au.rls_mem.2 ⟨h1.1.1,h1.1.2⟩)
    have h40:=HOK.out.r40
    unfold Gm.In
    omega)
   clear hc hrk hre HMV HMS hql
   obtain⟨w4,hw4⟩:∃y,y=w3.alloc (.cells #[.slice Ak kr.length ck,.slice Ae es.length ce] 50):=⟨_,rfl⟩
   have hs4:w4.heap.size=w3.heap.size+1:=by rw[hw4];simp
   have b4:Below w3.heap.size w3 w4:=by rw[hw4];exact(Below.refl _ _).alloc (Nat.le_refl _) _
   have e4:w4.heap[w3.heap.size]?=some (.cells #[.slice Ak kr.length ck,.slice Ae es.length ce] 50 (0,0)):=by rw[hw4];exact heap_alloc_new w3 _
   have HX4:=aA e4
   have HQ4:=aA (HQ3.out.on b4)
   have HB4:=aA b4
   have HS4:=aA hs4
   clear hs4 b4 e4
   go_upto_region 11 with fail
   rw[←hw4]
   clear hw4 k1 k2
   have x0:=HQ4.out.c 0 _ rfl
   have x1:=HQ4.out.c 1 _ rfl
   have x2:=HQ4.out.c 2 _ rfl
   have x3:=HQ4.out.c 3 _ rfl
   have f0:=cell_of_row w4 _ 0 _ _ _ HX4.out
   have f1:=cell_of_row w4 _ 1 _ _ _ HX4.out
   have l1:w3.heap.size<w4.heap.size:=by rw[HS4.out];omega
   go_wp2_with fail
   refine(TC.out kr Ak ck w3.heap.size w4 HQ4.out.below (HRK.out.below HB4.out (Nat.le_refl _)) HB4.out.size HKI.out (by have:=HKL.out;omega)).mono ?_;rintro _ w5 ⟨v5,rfl,ho5,hb5⟩
   rw[HM.out.cl]at ho5
   have HLI:Hid (∀y∈Au.clo G kr,Au.isI G y=true):=aA (fun y hy=>Au.clo_is hy)
   have HLL:Hid ((Au.clo G kr).length≤287):=aA (Au.clo_le2 HOK.out HOK.out.r40 _)
   have HCT:Hid (Au.cnt G (Au.clo G kr) es es.length=Au.cnx G (Au.clo G kr) (Au.clo G kr).length):=aA (Au.cnt_cnx HOK.out HM.out)
   have HED:Hid (∀i (h:i<es.length),∃t:Nat,∃ht:t<ss.length,(es[i]).2=(t:Int)∧(ss[t]).1=Au.mv G (Au.clo G kr) (es[i]).1):=aA HM.out.ed
   generalize Au.clo G kr=l at *
   obtain⟨A5,c5,rfl,_,_,hrd5⟩:=aI.form ho5 aG
   have HR5:=aA hrd5
   have HQ5:=aA (HQ4.out.on hb5)
   have HX5:=aA (aE hb5 HX4.out)
   have HB5:=aA (HB4.out.trans (hb5.mono HB4.out.size))
   have HB45:=aA hb5.size
   have HLT:Hid (w3.heap.size<w5.heap.size):=aA (by have:=hb5.size;have:=HS4.out;omega)
   have HTL:Hid (Au.cnt G l es es.length≤287):=aA (by rw[HCT.out];exact Nat.le_trans (Au.cnx_le _) HLL.out)
   have hlI:(l.length:Int)≤287:=by have:=HLL.out;omega
   have HC0:Hid (Au.cnt G l es 0=0):=aA (Au.cnt_zero _ _ _)
   clear ho5 hb5 hrd5 x0 x1 x2 x3 f0 f1 l1 HX4 HQ4 HB4 HM TC
   go_wp2
   go_loopw [9,10] (fun vn vi wr=>∃i:Nat,i≤es.length∧vi=.int .i64 i∧vn=.int .i64 (Au.cnt G l es i:Nat)∧Hid (Below w5.heap.size w5 wr)) (fun _ vi _=>es.length-(intOf vi).toNat)
   case atStart=>exact⟨0,Nat.zero_le _,rfl,by rw[HC0.out];rfl,aA (Below.refl _ _)⟩
   case round =>
    obtain⟨i,hi,rfl,rfl,HW⟩:=hrel
    rename World=>wr
    have HXR:=aA (aE HW.out HX5.out)
    have f0:=cell_of_row wr _ 0 _ _ _ HXR.out
    have f1:=cell_of_row wr _ 1 _ _ _ HXR.out
    have l1:w3.heap.size<wr.heap.size:=by have:=HW.out.size;have:=HLT.out;omega
    by_cases hlt:i<es.length
    ·have hltI:(i:Int)<(es.length:Int):=by omega
     have HCS:=aA (Au.cnt_step (G:=G) (l:=l) hlt)
     have HCB:Hid (Au.cnt G l es (i+1)≤287):=aA (Nat.le_trans (Au.cnt_le (by omega)) HTL.out)
     obtain⟨t,ht,et,es1⟩:=HED.out i hlt
     obtain⟨ge,oe,rfl,hge,hce⟩:=HRE.out (by omega)
     have HWB:=aA (HB5.out.trans (HW.out.mono HB5.out.size))
     have hger:ge<wr.heap.size:=by omega
     have ke0:=(HWB.out.cell (p:=⟨ge,oe+i*2,none⟩) hge).trans (hce i hlt 0 _ rfl)
     have ke1:=(HWB.out.cell (p:=⟨ge,oe+i*2+1,none⟩) hge).trans (hce i hlt 1 _ rfl)
     have KE0:=aA (fun(y:World) (h:Below w3.heap.size w3 y)=>(h.cell (p:=⟨ge,oe+i*2,none⟩) hge).trans (hce i hlt 0 _ rfl))
     have HGE:=aA hge
     rw[et]at ke1
     obtain⟨⟨At,ct,ktc,_,_,hrt⟩,-⟩:=HCC.out t ht
     have KT:=aA (fun(y:World) (h:Below w3.heap.size w3 y)=>(h.cell (p:=⟨g,o+t*2,none⟩) HGB.out).trans ktc)
     have HRT2:=aA hrt
     have HMB:=aA (fun(y:Au.It) (hy:y∈(ss[t]).1)=>Au.mv_back HOK.out HRT.out HLI.out (show y∈Au.mv G l (es[i]).1 by rw[←es1];exact hy))
     rw[←es1]at HCS
     have htI:(t:Int)<(ss.length:Int):=by omega
     have dt1:decide (ss.length≤t)=false:=decide_eq_false (by omega)
     have dt2:decide ((t:Int)<0)=false:=decide_eq_false (by omega)
     generalize (es[i]).1=s at *
     generalize (ss[t]).1=kt at *
     generalize Au.cnt G l es i=n0 at *
     have hn1:n0+kt.length≤287:=by have:=HCB.out;have:=HCS.out;omega
     clear hce hge hrt et es1 ht ktc
     go_wp2
     go_loopw [9,12] (fun vn vk wy=>∃k:Nat,k≤kt.length∧vk=.int .i64 k∧vn=.int .i64 ((n0+k:Nat):Int)∧Hid (Below w5.heap.size w5 wy)) (fun _ vk _=>kt.length-(intOf vk).toNat)
     case atStart=>exact⟨0,Nat.zero_le _,rfl,rfl,HW⟩
     case round =>
      clear HW HXR f0 f1 l1 ke0 ke1 HWB hger
      obtain⟨k,hk,rfl,rfl,HW⟩:=hrel
      rename World=>wy
      have HWB:=aA (HB5.out.trans (HW.out.mono HB5.out.size))
      have kt0:=KT.out wy HWB.out
      have lg:g<wy.heap.size:=by have:=HWB.out.size;have:=HGB.out;omega
      by_cases hlk:k<kt.length
      ·have hlkI:(k:Int)<(kt.length:Int):=by omega
       obtain⟨gk,ok,rfl,hgk,hck⟩:=HRT2.out (by omega)
       have kk0:=(HWB.out.cell (p:=⟨gk,ok+k*2,none⟩) hgk).trans (hck k hlk 0 _ rfl)
       have kk1:=(HWB.out.cell (p:=⟨gk,ok+k*2+1,none⟩) hgk).trans (hck k hlk 1 _ rfl)
       have lgk:gk<wy.heap.size:=by have:=HWB.out.size;omega
       obtain⟨hnx,hy1,hy7⟩:=HMB.out _ (List.getElem_mem hlk)
       have HNX:=aA hnx
       have hwd:IntKind.i64.wrap ((kt[k]).2-1)=(kt[k]).2-1:=IntWalk.i64_in _ (by omega)
       have HTN1:=aA (TN.out ((kt[k]).1,(kt[k]).2-1))
       rw[HNX.out]at HTN1
       generalize (kt[k]).1=y1 at *
       generalize (kt[k]).2=y2 at *
       obtain⟨wa,hwa⟩:∃z,z=wy.alloc (.cells #[.int .i64 y1,.int .i64 y2] 33):=⟨_,rfl⟩
       have ea:wa.heap[wy.heap.size]?=some (.cells #[.int .i64 y1,.int .i64 y2] 33 (0,0)):=by rw[hwa];exact heap_alloc_new wy _
       have ba:Below wy.heap.size wy wa:=by rw[hwa];exact(Below.refl _ _).alloc (Nat.le_refl _) _
       have sa:wa.heap.size=wy.heap.size+1:=by rw[hwa];simp
       have HEA:=aA ea
       have HBA:=aA ba
       have HSA:=aA sa
       clear hck hnx ea ba sa hgk
       go_upto_region 23 with fail
       rw[←hwa]
       clear hwa kk0 kk1 lgk kt0 lg
       have a0:=cell_of_row wa _ 0 _ _ _ HEA.out
       have a1:=cell_of_row wa _ 1 _ _ _ HEA.out
       have a2:=frozen_of_row wa _ 1 _ _ HEA.out
       have a3:wy.heap.size<wa.heap.size:=by rw[HSA.out];omega
       have eb:(wa.setCell ⟨wy.heap.size,1,none⟩ (.int .i64 (y2-1))).heap[wy.heap.size]?=some (.cells (#[.int .i64 y1,.int .i64 y2].setIfInBounds 1 (.int .i64 (y2-1))) 33 (0,0)):=heap_setCell_same wa _ _ _ _ _ HEA.out
       have bb:Below wy.heap.size wy (wa.setCell ⟨wy.heap.size,1,none⟩ (.int .i64 (y2-1))):=HBA.out.setCell (Nat.le_refl _) _
       obtain⟨wb,hwb⟩:∃z,z=wa.setCell ⟨wy.heap.size,1,none⟩ (.int .i64 (y2-1)):=⟨_,rfl⟩
       rw[←hwb]at eb bb
       have HEB:=aA eb
       have HBB:=aA bb
       clear eb bb
       go_upto_region 24 with fail
       rw[←hwb]
       clear hwb a0 a1 a2 a3 HEA HBA HSA
       have b0:=cell_of_row wb _ 0 _ _ _ HEB.out
       have b1:=cell_of_row wb _ 1 _ _ _ HEB.out
       have b0:wb.cell? ⟨wy.heap.size,0,none⟩=some (.int .i64 y1):=b0
       have b1:wb.cell? ⟨wy.heap.size,1,none⟩=some (.int .i64 (y2-1)):=b1
       have lb:wy.heap.size<wb.heap.size:=(Array.getElem?_eq_some_iff.1 HEB.out).1
       have HQB:=aA (HQ5.out.on (HW.out.trans (HBB.out.mono HW.out.size)))
       have x0:=HQB.out.c 0 _ rfl
       have x1:=HQB.out.c 1 _ rfl
       have x2:=HQB.out.c 2 _ rfl
       have x3:=HQB.out.c 3 _ rfl
       go_wp2_with fail
       refine(HTN1.out wb HQB.out.below).mono ?_;rintro _ wc ⟨rfl,hbc⟩
       have HWC:Hid (Below w5.heap.size w5 wc):=aA ((HW.out.trans (HBB.out.mono HW.out.size)).trans (hbc.mono (HW.out.trans (HBB.out.mono HW.out.size)).size))
       have HXC:=aA (aE HWC.out HX5.out)
       have f0:=cell_of_row wc _ 0 _ _ _ HXC.out
       have f1:=cell_of_row wc _ 1 _ _ _ HXC.out
       have l1:w3.heap.size<wc.heap.size:=by have:=HWC.out.size;have:=HLT.out;omega
       have HWD:=aA (HB5.out.trans (HWC.out.mono HB5.out.size))
       have ke0:=KE0.out wc HWD.out
       have lge:ge<wc.heap.size:=by have:=HWD.out.size;have:=HGE.out;omega
       have hss:(s != s)=false:=by simp
       clear hbc b0 b1 lb x0 x1 x2 x3 HTN1 HNX HEB HBB
       go_wp2
       go_roundw
       case rel=>exact⟨k+1,hlk,by go_num,by go_num,HWC⟩
       case measure=>simp[intOf];omega
      ·obtain rfl:k=kt.length:=by omega
       have hni:¬((kt.length:Nat):Int)<((kt.length:Nat):Int):=by omega
       have HN1:Hid ((n0+kt.length:Nat)=Au.cnt G l es (i+1)):=aA HCS.out.symm
       clear hlk hk
       go_wp2
       go_roundw
       case rel=>exact⟨i+1,hlt,by go_num,by rw[HN1.out],HW⟩
       case measure=>simp[intOf];omega
    ·obtain rfl:i=es.length:=by omega
     have hni:¬((es.length:Nat):Int)<((es.length:Nat):Int):=by omega
     rw[HCT.out]
     obtain⟨tot,htot⟩:∃z,z=Au.cnx G l l.length:=⟨_,rfl⟩
     have HTT:=aA htot
     rw[←htot]
     have ht287:tot≤287:=by rw[htot];exact Nat.le_trans (Au.cnx_le _) HLL.out
     have HCL:Hid (∀j,j≤l.length→Au.cnx G l j≤tot):=aA (fun j hj=>by
      rw[htot]
      unfold Au.cnx
      refine(List.Sublist.filter _ ?_).length_le
      rw[List.take_length]
      exact List.take_sublist _ _)
     have HZ0:Hid (Au.cnx G l 0=0):=aA (Au.cnx_zero _ _)
     clear htot hlt hi HCT
     go_wp2
     go_loopw [9,16] (fun vn vj wy=>∃j:Nat,j≤l.length∧vj=.int .i64 j∧vn=.int .i64 ((tot:Int)-(Au.cnx G l j:Int))∧Hid (Below w5.heap.size w5 wy)) (fun _ vj _=>l.length-(intOf vj).toNat)
     case atStart=>exact⟨0,Nat.zero_le _,rfl,by rw[HZ0.out];simp,HW⟩
     case round =>
      clear HW HXR f0 f1 l1
      obtain⟨j,hj,rfl,rfl,HW⟩:=hrel
      rename World=>wy
      have HQY:=aA (HQ5.out.on HW.out)
      have hcl:=HCL.out j hj
      by_cases hlj:j<l.length
      ·have hljI:(j:Int)<(l.length:Int):=by omega
       obtain⟨gl,ol,rfl,hgl,hcl2⟩:=HR5.out (by omega)
       have hcl3:=HCL.out (j+1) hlj
       have HCX:=aA (Au.cnx_step (G:=G) hlj)
       have hIx:=HLI.out _ (List.getElem_mem hlj)
       have HTN1:=aA (TN.out l[j])
       have hno:Au.nextO G l[j]=Au.nx G l[j]:=by unfold Au.nextO;rw[if_pos HRT.out,Au.nxP_is hIx]
       rw[hno]at HTN1
       have z0:∀z:Calm.On wy.heap.size wy,z.1.cell? ⟨w.heap.size,0,none⟩=some (.slice A0 G.ts.length c0):=fun z=>(HQY.out.on z.2).c 0 _ rfl
       have z1:∀z:Calm.On wy.heap.size wy,z.1.cell? ⟨w.heap.size,1,none⟩=some (.slice A1 G.ns.length c1):=fun z=>(HQY.out.on z.2).c 1 _ rfl
       have z2:∀z:Calm.On wy.heap.size wy,z.1.cell? ⟨w.heap.size,2,none⟩=some (.slice A2 G.rs.length c2):=fun z=>(HQY.out.on z.2).c 2 _ rfl
       have z3:∀z:Calm.On wy.heap.size wy,z.1.cell? ⟨w.heap.size,3,none⟩=some (.int .i64 G.st):=fun z=>(HQY.out.on z.2).c 3 _ rfl
       have q0:∀z:Calm.On wy.heap.size wy,z.1.cell? ⟨gl,ol+j*2,none⟩=some (.int .i64 (l[j]).1):=fun z=>((HW.out.trans (z.2.mono HW.out.size)).cell (p:=⟨gl,ol+j*2,none⟩) hgl).trans (hcl2 j hlj 0 _ rfl)
       have q1:∀z:Calm.On wy.heap.size wy,z.1.cell? ⟨gl,ol+j*2+1,none⟩=some (.int .i64 (l[j]).2):=fun z=>((HW.out.trans (z.2.mono HW.out.size)).cell (p:=⟨gl,ol+j*2+1,none⟩) hgl).trans (hcl2 j hlj 1 _ rfl)
       have HS0:Hid (∃z:Calm.On wy.heap.size wy,wy.drew=z.1):=aA ⟨⟨wy.drew,aB (Below.refl _ _) 1⟩,rfl⟩
       generalize l[j]=x at *
       generalize Au.nx G x=nx at *
       generalize Au.cnx G l j=m0 at *
       clear hcl2 hgl hIx hno
       go_wp2_with fail
       refine CalmN.region_tree (fun x=>∃z:Calm.On wy.heap.size wy,x=z.1) (.one [0,1,2,3,4] 5 (.fin [6,7,8,9,10])) (by kernel_rfl) (by kernel_rfl) (fun _ _ d _ _ h=>by cases d <;> exact h) HS0.out ?_
       simp only[CalmN.wpT,CalmN.wpSt,CalmN.pickOps,List.getElem?_toArray,List.getElem?_cons_zero,List.getElem?_cons_succ]
       repeat (go_big_quiet_step (fail))
       refine wpQuiet_nil ?_
       intro KK hKK
       rw[if_pos (by rfl)]
       go_wp2_with fail
       refine(HTN1.out wy.drew (aB HQY.out.below 1)).mono ?_;rintro _ w7 ⟨rfl,hb7⟩
       have hb7:Below wy.heap.size wy w7:=(aB (Below.refl _ wy) 1).trans hb7
       have HS7:Hid (∃z:Calm.On wy.heap.size wy,w7=z.1):=aA ⟨⟨w7,hb7⟩,rfl⟩
       have HW7:=aA (HW.out.trans (hb7.mono HW.out.size))
       clear hb7 q0 q1 z0 z1 z2 z3 HS0 HTN1
       cases nx with
       | none =>
        have HM1:Hid (Au.cnx G l (j+1)=m0):=aA (by have:=HCX.out;simpa using this)
        go_wp2_with fail
        refine hKK _ _ HS7.out _ (fun _ h=>h) HS7.out ?_
        clear hKK
        repeat (go_big_quiet_step (fail))
        refine wpQuiet_nil ?_
        go_wp2
        go_roundw
        case rel=>exact⟨j+1,hlj,by go_num,by rw[HM1.out],HW7⟩
        case measure=>simp[intOf];omega
       | some s =>
        have HM1:Hid (Au.cnx G l (j+1)=m0+1):=aA (by have:=HCX.out;simpa using this)
        have hm1:m0+1≤tot:=by have:=HM1.out;omega
        obtain⟨d,hd⟩:∃d:Int,d=(tot:Int)-(m0:Int):=⟨_,rfl⟩
        have hwd:IntKind.i64.wrap (d-1)=d-1:=IntWalk.i64_in _ (by omega)
        have HD1:Hid (d-1=(tot:Int)-(Au.cnx G l (j+1):Int)):=aA (by have:=HM1.out;omega)
        rw[←hd]
        clear hd hcl hcl3 hm1
        go_wp2_with fail
        refine hKK _ _ HS7.out _ (fun _ h=>h) HS7.out ?_
        clear hKK
        repeat (go_big_quiet_step (fail))
        refine wpQuiet_nil ?_
        go_wp2
        go_roundw
        case rel=>exact⟨j+1,hlj,by go_num,by rw[HD1.out],HW7⟩
        case measure=>simp[intOf];omega
      ·obtain rfl:j=l.length:=by omega
       have hni2:¬((l.length:Nat):Int)<((l.length:Nat):Int):=by omega
       have hzz:(tot:Int)-(Au.cnx G l l.length:Int)=0:=by have:=HTT.out;omega
       rw[hzz]
       clear hlj hj hcl hzz
       go_wp2
       go_ret
       exact⟨rfl,HQY.out.below⟩
  ·have hne:(Au.bldE G != 0)=true:=by simpa using hE
   clear hgr hE
   go_wp2_with fail
   refine(TA.out w2 HQ2.out.below).mono ?_;rintro _ w3 ⟨A,c,rfl,_,_,_,hb3⟩
   have HQ3:=aA (HQ2.out.on hb3)
   clear hb3 x0 x1 x2 x3 TA
   generalize Au.bldE G=er at *
   generalize (Au.bldS G).length=n0 at *
   go_wp2
   go_ret
   exact⟨rfl,HQ3.out.below⟩
end Go.Proofs.YtabmfpgpkbndeaaGreat
