/- Part of the proofs over this program: WalkOnce15. -/
import Derived.Test.YtabmfpgpkbndeaaGreatKAS
import Derived.Test.YtabmfpgpkbndeaaGreatKAT
namespace Go.Proofs.YtabmfpgpkbndeaaGreat
set_option maxRecDepth 100000
set_option maxHeartbeats 40000000
open Go.RowKit
theorem zdb (v:Value) (G:Gm.Gr) (w:World) (hg:aT w w.heap.size v G) (hf:Gm.Fit G) :
  Calls Tryz.prog 6 #[v] w fun e w'=>e=.returned (.bool true)∧Below w.heap.size w w':=by
 have HGG:=aA (fun(x:World) (h:Below w.heap.size w x)=>hg.below h (Nat.le_refl _))
 have HAL:=aA (fun(x:World)=>zaD x)
 have TG:=aA (fun(x:World) (h:Below w.heap.size w x)=>zba v G w.heap.size x (HGG.out x h) h.size)
 have TA:=aA (fun(x:World) (h:Below w.heap.size w x)=>zaR v G w.heap.size x (HGG.out x h) hf h.size)
 have TI:=aA (fun(x:World) (h:Below w.heap.size w x)=>zf1 v G w.heap.size x (HGG.out x h) hf h.size)
 obtain⟨A0,c0,A1,c1,A2,c2,rfl,_⟩:=hg
 have HQ0:=aA (aZ.start 26 w #[.slice A0 G.ts.length c0,.slice A1 G.ns.length c1,.slice A2 G.rs.length c2,.int .i64 G.st])
 clear hf
 go_enter Tryz.func6,Tryz.ntmps6
 go_wp2_with fail
 refine(HAL.out _).mono ?_;rintro _ w1 ⟨rfl,hb1⟩
 have HQ1:=aA (HQ0.out.on hb1)
 have x0:=HQ1.out.c 0 _ rfl
 have x1:=HQ1.out.c 1 _ rfl
 have x2:=HQ1.out.c 2 _ rfl
 have x3:=HQ1.out.c 3 _ rfl
 clear hb1
 cases hgr:Gm.great G with
 | true =>
  rw[hgr]at TG
  go_wp2_with fail
  refine(TG.out _ HQ1.out.below).mono ?_;rintro _ w2 ⟨rfl,hb2⟩
  have HQ2:=aA (HQ1.out.on hb2)
  clear hb2
  go_wp2
  go_ret
  exact⟨rfl,HQ2.out.below⟩
 | false =>
  rw[hgr]at TG
  go_upto_region 5 with fail
  refine(TG.out _ HQ1.out.below).mono ?_;rintro _ w2 ⟨rfl,hb2⟩
  have HQ2:=aA (HQ1.out.on hb2)
  clear x0 x1 x2 x3 hb2 TG
  have x0:=HQ2.out.c 0 _ rfl
  have x1:=HQ2.out.c 1 _ rfl
  have x2:=HQ2.out.c 2 _ rfl
  have x3:=HQ2.out.c 3 _ rfl
  cases hb:Gm.isB G with
  | false =>
   obtain⟨hE,hS⟩:=Au.bld_no hb
   have HE:=aA hE
   have HSL:Hid ((Au.bldS G).length=0):=aA (by rw[hS];rfl)
   rw[hb]at TI
   clear hgr hb hE hS
   go_wp2_with fail
   refine(TA.out w2 HQ2.out.below).mono ?_;rintro _ w3 ⟨A,c,rfl,_,_,_,hb3⟩
   rw[HE.out]
   have HQ3:=aA (HQ2.out.on hb3)
   have hz0:(((Au.bldS G).length:Int)==0)=true:=by rw[HSL.out];rfl
   clear hb3 x0 x1 x2 x3 HE TA HSL
   generalize (Au.bldS G).length=n0 at *
   have x0:=HQ3.out.c 0 _ rfl
   have x1:=HQ3.out.c 1 _ rfl
   have x2:=HQ3.out.c 2 _ rfl
   have x3:=HQ3.out.c 3 _ rfl
   go_wp2_with fail
   refine(TI.out w3 HQ3.out.below).mono ?_;rintro _ w4 ⟨rfl,hb4⟩
   have HQ4:=aA (HQ3.out.on hb4)
   clear hb4 x0 x1 x2 x3
   go_wp2
   go_ret
   exact⟨rfl,HQ4.out.below⟩
  | true =>
   rw[hb]at TI
   cases hk:Au.bld G with
   | none =>
    obtain⟨hE,hS⟩:=Au.bld_many hb hk
    have HE:=aA hE
    have HSL:Hid ((Au.bldS G).length=0):=aA (by rw[hS];rfl)
    clear hgr hb hE hS hk
    go_wp2_with fail
    refine(TA.out w2 HQ2.out.below).mono ?_;rintro _ w3 ⟨A,c,rfl,_,_,_,hb3⟩
    rw[HE.out]
    have HQ3:=aA (HQ2.out.on hb3)
    have hz0:(((Au.bldS G).length:Int)==0)=true:=by rw[HSL.out];rfl
    clear hb3 x0 x1 x2 x3 HE TA HSL
    generalize (Au.bldS G).length=n0 at *
    have x0:=HQ3.out.c 0 _ rfl
    have x1:=HQ3.out.c 1 _ rfl
    have x2:=HQ3.out.c 2 _ rfl
    have x3:=HQ3.out.c 3 _ rfl
    go_wp2_with fail
    refine(TI.out w3 HQ3.out.below).mono ?_;rintro _ w4 ⟨rfl,hb4⟩
    have HQ4:=aA (HQ3.out.on hb4)
    clear hb4 x0 x1 x2 x3
    go_wp2
    go_ret
    exact⟨rfl,HQ4.out.below⟩
   | some p =>
    have HO:=aA (Au.bldS_once hb hk)
    have HE:=aA (Au.bld_ok hb hk).1
    clear hgr hb hk TI
    go_wp2_with fail
    refine(TA.out w2 HQ2.out.below).mono ?_;rintro _ w3 ⟨A,c,rfl,_,_,hr3,hb3⟩
    rw[HE.out]
    have HR3:=aA hr3
    have HQ3:=aA (HQ2.out.on hb3)
    have HGT:=aA (zcf (Au.bldS G) A c w3.heap.size w3 hr3 (Nat.le_refl _) (by have:=HO.out.le;omega))
    have HGF:Hid (Au.greatS (Au.bldS G)=false):=aA (Au.greatS_no.2 ⟨by have:=HO.out.le;omega,fun x hx=>by have:=HO.out.ms x hx;omega⟩)
    rw[HGF.out]at HGT
    have hn0:0<(Au.bldS G).length:=HO.out.ne
    have hn3:(Au.bldS G).length≤300:=HO.out.le
    generalize Au.bldS G=ss at *
    clear x0 x1 x2 x3 hr3 hb3 TA HE HGF
    have hI0:(0:Int)<(ss.length:Int):=by omega
    have hz0:((ss.length:Int)==0)=false:=by rw[beq_eq_false_iff_ne];omega
    have hI3:(ss.length:Int)≤300:=by omega
    go_wp2_with fail
    refine HGT.out.mono ?_;rintro _ w4 ⟨rfl,hb4⟩
    have HR4:=aA (HR3.out.below hb4 (Nat.le_refl _))
    have HQ4:=aA (HQ3.out.on hb4)
    have HB4:=aA hb4.size
    clear hb4 HGT HR3
    go_upto_region 11 with(at_make;refine zca rfl (.tmp 40) (.tmp 40) _ rfl Tryz.underlying47 ss.length _ _ rfl rfl rfl rfl (by omega) ?_;intro w5 hu5 hb5 hlt5)
    have HR5:=aA (HR4.out.below hb5 HB4.out)
    have HQ5:=aA (HQ4.out.on hb5)
    have HB5:Hid (w3.heap.size≤w4.heap.size):=HB4
    have f0:=hu5.frozen 0
    have e0:=hu5.cell 0 (by simpa using hn0)
    have HU5:=aA (hu5.set_ 0 true)
    have HSN:=aA (Au.SeenI.start hn0)
    have HW5:Hid (Below w4.heap.size w4 (w5.setCell ⟨w4.heap.size,0,none⟩ (.bool true))):=aA (hb5.setCell (Nat.le_refl _) _)
    obtain⟨gs,hgs⟩:∃q,q=w4.heap.size:=⟨_,rfl⟩
    obtain⟨w6,hw6⟩:∃y,y=w5.setCell ⟨w4.heap.size,0,none⟩ (.bool true):=⟨_,rfl⟩
    generalize (List.replicate ss.length false).set 0 true=S0 at *
    generalize (List.replicate ss.length false).getD 0 false=b0 at *
    rw[←hw6]at HW5 HU5
    go_upto_region 12 with fail
    rw[←hw6]
    clear hw6 f0 e0 hu5 hb5 hlt5
    rw[←hgs]at HU5 ⊢
    have HGS:Hid (w4.heap.size≤gs):=aA (Nat.le_of_eq hgs.symm)
    clear hgs
    go_wp2
    go_loopw [6] (fun vi wr=>∃(i:Nat) (S:List Bool),i≤ss.length∧vi=.int .i64 i∧Hid (Au.SeenI ss i S)∧Hid (UBO wr gs S)∧Hid (Below w4.heap.size w4 wr)) (fun vi _=>ss.length-(intOf vi).toNat)
    case atStart=>exact⟨0,S0,Nat.zero_le _,rfl,HSN,HU5,HW5⟩
    case round =>
     clear HSN HU5 HW5
     obtain⟨i,S,hi,rfl,HSN,HU,HW⟩:=hrel
     rename World=>wr
     by_cases hlt:i<ss.length
     ·have hltI:(i:Int)<(ss.length:Int):=by omega
      have HSI:=aA (HSN.out.at HO.out hlt)
      go_wp2
      go_loopw [7] (fun vk wk=>∃k:Nat,k≤i∧vk=.int .i64 k∧Hid (UBO wk gs S)∧Hid (Below w4.heap.size w4 wk)) (fun vk _=>i-(intOf vk).toNat)
      case atStart=>exact⟨0,Nat.zero_le _,rfl,HU,HW⟩
      case round =>
       clear HU HW
       obtain⟨k,hk,rfl,HU,HW⟩:=hrel
       rename World=>wk
       have HRK:=aA (HR4.out.below HW.out HB4.out)
       obtain⟨g,o,rfl,hgB,hc⟩:=HRK.out (by omega)
       have hgw:g<wk.heap.size:=by have:=HW.out.size;have:=HB4.out;omega
       by_cases hlk:k<i
       ·have hlkI:(k:Int)<(i:Int):=by omega
        have hkn:(k:Int)<(ss.length:Int):=by omega
        obtain⟨⟨Ak,ck,k1,_,_,hrk⟩,_⟩:=hc k (by omega)
        obtain⟨⟨Ai,ci,k2,_,_,hri⟩,_⟩:=hc i hlt
        have HIT:=aA (fun(x:World) (h:Below wk.heap.size wk x)=>zaN (ss[k]).1 (ss[i]).1 Ak Ai ck ci w3.heap.size x (hrk.below h (by have:=HW.out.size;have:=HB4.out;omega)) (hri.below h (by have:=HW.out.size;have:=HB4.out;omega)) (by have:=HW.out.size;have:=HB4.out;have:=h.size;omega) (by have:=(HO.out.ms _ (List.getElem_mem (show k<ss.length by omega))).1;omega) false (Gm.tr_no.2 (HO.out.nd k i (by omega) hlt (by omega))))
        have q0:∀z:Calm.On wk.heap.size wk,z.1.cell? ⟨g,o+k*2,none⟩=some (.slice Ak (ss[k]).1.length ck):=fun z=>(z.2.cell (p:=⟨g,o+k*2,none⟩) hgw).trans k1
        have q1:∀z:Calm.On wk.heap.size wk,z.1.cell? ⟨g,o+i*2,none⟩=some (.slice Ai (ss[i]).1.length ci):=fun z=>(z.2.cell (p:=⟨g,o+i*2,none⟩) hgw).trans k2
        have HS0:Hid (∃z:Calm.On wk.heap.size wk,wk.drew=z.1):=aA ⟨⟨wk.drew,aB (Below.refl _ _) 1⟩,rfl⟩
        clear hc k1 k2 hrk hri
        generalize (ss[k]).1.length=nk at *
        generalize (ss[i]).1.length=ni at *
        go_wp2_with fail
        refine CalmN.region_tree (fun x=>∃z:Calm.On wk.heap.size wk,x=z.1) (.one [0,1,2,3,4,5,6,7,8,9] 10 (.fin [])) (by kernel_rfl) (by kernel_rfl) (fun _ _ d _ _ h=>by cases d <;> exact h) HS0.out ?_
        simp only[CalmN.wpT,CalmN.wpSt,CalmN.pickOps,List.getElem?_toArray,List.getElem?_cons_zero,List.getElem?_cons_succ]
        repeat (go_big_quiet_step (fail))
        refine wpQuiet_nil ?_
        intro KK hKK
        rw[if_pos (by rfl)]
        go_wp2_with fail
        refine(HIT.out wk.drew (aB (Below.refl _ _) 1)).mono ?_;rintro _ w7 ⟨rfl,hb7⟩
        have hb7:Below wk.heap.size wk w7:=(aB (Below.refl _ wk) 1).trans hb7
        have HS7:Hid (∃z:Calm.On wk.heap.size wk,w7=z.1):=aA ⟨⟨w7,hb7⟩,rfl⟩
        have HU7:=aA (HU.out.below hb7 HU.out.lt)
        have HW7:=aA (HW.out.trans (hb7.mono HW.out.size))
        clear hb7 q0 q1 HS0 HIT
        go_wp2_with fail
        refine hKK _ _ HS7.out _ (fun _ h=>h) HS7.out ?_
        clear hKK
        refine wpQuiet_nil ?_
        go_wp2
        go_roundw
        case rel=>exact⟨k+1,hlk,by go_num,HU7,HW7⟩
        case measure=>simp[intOf];omega
       ·obtain rfl:k=i:=by omega
        have hkn:¬((k:Nat):Int)<((k:Nat):Int):=by omega
        have HSK0:=aA (Au.SeenK.start (es:=(ss[k]).2) HSN.out)
        clear hc hgw hgB hlk hk
        go_wp2
        go_loopw [8] (fun vm wm=>∃(m:Nat) (S2:List Bool),m≤(ss[k]).2.length∧vm=.int .i64 m∧Hid (Au.SeenK ss k (ss[k]).2 m S2)∧Hid (UBO wm gs S2)∧Hid (Below w4.heap.size w4 wm)) (fun vm _=>(ss[k]).2.length-(intOf vm).toNat)
        case atStart=>exact⟨0,S,Nat.zero_le _,rfl,HSK0,HU,HW⟩
        case round =>
         clear HU HW HSK0
         obtain⟨m,S2,hm,rfl,HSK,HU,HW⟩:=hrel
         rename World=>wm
         have HRM:=aA (HR4.out.below HW.out HB4.out)
         obtain⟨g2,o2,he2,hgB2,hc2⟩:=HRM.out (by omega)
         injection he2 with he2
         injection he2 with e21 e22 _
         subst e21 e22
         have hgw:g<wm.heap.size:=by have:=HW.out.size;have:=HB4.out;omega
         obtain⟨_,⟨Ae,ce,k3,_,_,hre⟩⟩:=hc2 k hlt
         by_cases hlm:m<(ss[k]).2.length
         ·have hlmI:(m:Int)<((ss[k]).2.length:Int):=by omega
          obtain⟨ge,oe,rfl,hgeB,hce⟩:=hre (by omega)
          have hgew:ge<wm.heap.size:=by have:=HW.out.size;have:=HB4.out;omega
          have k4:=hce m hlm 1 _ rfl
          have hto:=HO.out.te k hlt _ (List.getElem_mem hlm)
          obtain⟨t,ht⟩:∃t:Nat,((ss[k]).2[m]).2=(t:Int):=⟨((ss[k]).2[m]).2.toNat,by omega⟩
          rw[ht]at k4 hto
          have htl:t<ss.length:=by omega
          have HSK2:=aA (HSK.out.step hlm ht htl)
          have hS2:S2.length=ss.length:=HSK.out.1.l
          have HSI2:=aA (HSK.out.1.at HO.out hlt)
          have f5:=HU.out.cell k (by rw[hS2];exact hlt)
          rw[HSI2.out]at f5
          have f6:=HU.out.cell t (by rw[hS2];exact htl)
          have f7:=HU.out.frozen t
          have f8:=HU.out.lt
          have HU2:=aA (HU.out.set_ t true)
          have HW2:Hid (Below w4.heap.size w4 (wm.setCell ⟨gs,t,none⟩ (.bool true))):=aA (HW.out.setCell HGS.out _)
          have htI:(t:Int)<(ss.length:Int):=by omega
          have HSL2:Hid (S2.length=ss.length):=aA hS2
          generalize S2.getD t false=bt at *
          clear hc2 hce ht hto htl hS2 hre
          go_wp2
          go_roundw
          case rel=>exact⟨m+1,S2.set t true,hlm,by go_num,HSK2,HU2,HW2⟩
          case measure=>simp[intOf];omega
         ·obtain rfl:m=(ss[k]).2.length:=by omega
          have hni:¬(((ss[k]).2.length:Nat):Int)<(((ss[k]).2.length:Nat):Int):=by omega
          have HSD:=aA (Au.SeenK.done hlt HSK.out)
          have f5:=HU.out.cell k (by rw[HSK.out.1.l];exact hlt)
          rw[HSK.out.1.at HO.out hlt]at f5
          have f8:=HU.out.lt
          clear hc2 hre hlm hm
          generalize (ss[k]).2.length=nm at *
          go_wp2
          go_roundw
          case rel=>exact⟨k+1,S2,hlt,by go_num,HSD,HU,HW⟩
          case measure=>simp[intOf];omega
     ·obtain rfl:i=ss.length:=by omega
      have hni:¬((ss.length:Nat):Int)<((ss.length:Nat):Int):=by omega
      clear hlt hi
      go_wp2
      go_ret
      exact⟨rfl,(HQ4.out.on HW.out).below⟩
end Go.Proofs.YtabmfpgpkbndeaaGreat
