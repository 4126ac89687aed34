/- Part of the proofs over this program: RfWalk, WalkWalks15. -/
import Derived.Test.YtabmfpgpkbndeaaGreatKAM
import Derived.Test.YtabmfpgpkbndeaaGreatKAO
import Derived.Test.YtabmfpgpkbndeaaGreatKAT
namespace Go.Proofs.YtabmfpgpkbndeaaGreat
set_option maxRecDepth 100000
set_option maxHeartbeats 40000000
open Go.RowKit
theorem zdW (ss:List StT) (A:Option Addr) (c B:Nat) (q:Int) (sy:List Int) (AY:Option Addr) (cY BY:Nat) (w:World) (hr:bI w B A ss) (hB:B≤w.heap.size) (hn:ss.length≤100000) (hel:∀x∈ss,x.2.length≤1000000) (hy:RdI w BY AY sy) (hBY:BY≤w.heap.size) (hyl:sy.length≤100000) :
  Calls Tryz.prog 22 #[.slice A ss.length c,.int .i64 q,.slice AY sy.length cY] w fun e w'=>e=.returned (.tuple #[.int .i64 ((Au.wlkS ss q sy).getD 0),.bool (Au.wlkS ss q sy).isSome])∧Below w.heap.size w w':=by
 have hyI:(sy.length:Int)≤100000:=by omega
 have hnI:(ss.length:Int)≤100000:=by omega
 have H0:Au.wlkS ss q (sy.take 0)=if Au.inR ss.length q=true then some q else none:=by rw[List.take_zero];exact Au.wlkS_nil ss q
 have HNO:Hid (Au.inR ss.length q=false→Au.wlkS ss q sy=none):=aA (fun e=>by
  rw[e,if_neg (by decide)]at H0
  have h2:=Au.wlk_none (E:=ss.map (·.2)) (b:=sy.drop 0) (show Au.wlk (ss.map (·.2)) q (sy.take 0)=none from H0)
  rw[List.take_append_drop]at h2
  exact h2)
 by_cases h1:q<0
 ·have HN:=aA (HNO.out (by unfold Au.inR;rw[decide_eq_false (by omega),Bool.false_and]))
  clear hr hy H0 HNO
  go_enter Tryz.func22,Tryz.ntmps22
  go_wp2
  go_ret2
  exact⟨by rw[HN.out];rfl,Below.refl _ _⟩
 ·by_cases h2:(ss.length:Int)≤q
  ·have HN:=aA (HNO.out (by unfold Au.inR;rw[decide_eq_false (p:=q<(ss.length:Int)) (by omega),Bool.and_false]))
   clear hr hy H0 HNO
   go_enter Tryz.func22,Tryz.ntmps22
   go_wp2
   go_ret2
   exact⟨by rw[HN.out];rfl,Below.refl _ _⟩
  ·have HQ0:Hid (Au.wlkS ss q (sy.take 0)=some q):=aA (by rw[H0,if_pos (Au.inR_iff.2 ⟨by omega,by omega⟩)])
   have HR:=aA hr
   have HB:=aA hB
   have HY:=aA hy
   have HBY:=aA hBY
   have HEL:=aA hel
   obtain⟨m0,hm0⟩:∃m:Nat,q=(m:Int):=⟨q.toNat,by omega⟩
   subst hm0
   have hm0:m0<ss.length:=by omega
   clear hr hB hy hBY hel H0 HNO
   go_enter Tryz.func22,Tryz.ntmps22
   go_wp2
   go_loopw [1,8] (fun va vi wr=>∃(i m:Nat),i≤sy.length∧m<ss.length∧va=.int .i64 m∧vi=.int .i64 i∧Hid (Au.wlkS ss (m0:Int) (sy.take i)=some (m:Int))∧Hid (Below w.heap.size w wr)) (fun _ vi _=>sy.length-(intOf vi).toNat)
   case atStart=>exact⟨0,m0,Nat.zero_le _,hm0,rfl,rfl,HQ0,aA (Below.refl _ _)⟩
   case round =>
    obtain⟨i,m,hi,hm,rfl,rfl,HQ,HW⟩:=hrel
    by_cases hlt:i<sy.length
    ·obtain⟨gy,oy,rfl,hgY,hcy⟩:=HY.out (by omega)
     have KY:=aA (fun(y:World) (h:Below w.heap.size w y)=>(h.cell (p:=⟨gy,oy+i,none⟩) (Nat.lt_of_lt_of_le hgY HBY.out)).trans (hcy i hlt))
     rw[L.gd_lt hlt]at KY
     obtain⟨g,o,rfl,hgB,hc⟩:=HR.out (by omega)
     obtain⟨A2,c2,a2,_,_,r2⟩:=(hc m hm).2
     have KA:=aA (fun(y:World) (h:Below w.heap.size w y)=>(h.cell (p:=⟨g,o+m*2+1,none⟩) (Nat.lt_of_lt_of_le hgB HB.out)).trans a2)
     have HR2:=aA r2
     have HTK:Hid (Au.wlkS ss (m0:Int) (sy.take (i+1))=Au.wlkS ss (Au.lead (ss[m]).2 sy[i]) []):=aA (by
      rw[List.take_succ_eq_append_getElem hlt,Au.wlkS_snoc,HQ.out,Option.bind_some,show((m:Int)).toNat=m by omega,List.getD_eq_getElem?_getD,List.getElem?_map,List.getElem?_eq_getElem hm];rfl)
     have HEND:Hid (Au.inR ss.length (Au.lead (ss[m]).2 sy[i])=false→Au.wlkS ss (m0:Int) sy=none):=aA (fun e=>by
      have h1:=HTK.out
      rw[Au.wlkS_nil,e,if_neg (by decide)]at h1
      have h2:=Au.wlk_none (E:=ss.map (·.2)) (b:=sy.drop (i+1)) (show Au.wlk (ss.map (·.2)) (m0:Int) (sy.take (i+1))=none from h1)
      rw[List.take_append_drop]at h2
      exact h2)
     have HNX:=aA (Au.wlkS_nil ss (Au.lead (ss[m]).2 sy[i]))
     have HLE:=aA (HEL.out _ (List.getElem_mem hm))
     have hmI:(m:Int)<(ss.length:Int):=by omega
     have hiI:(i:Int)<(sy.length:Int):=by omega
     clear hcy hc a2 r2
     generalize (ss[m]).2=l at *
     generalize sy[i]=s at *
     have hlI:(l.length:Int)≤1000000:=by have:=HLE.out;omega
     go_wp2
     go_loopw [9,10,11] (fun vt vo vk wy=>∃(k:Nat) (z:Int) (b:Bool),k≤l.length∧vt=.int .i64 z∧vo=.bool b∧vk=.int .i64 k∧Hid (b=false→z = -1∧∀j (h:j<l.length),j<k→(l[j]).1≠s)∧Hid (b=true→z=Au.lead l s)∧Hid (Below w.heap.size w wy)) (fun _ _ vk _=>l.length-(intOf vk).toNat)
     case atStart=>exact⟨0,-1,false,Nat.zero_le _,rfl,rfl,rfl,aA (fun _=>⟨rfl,fun _ _ h=>absurd h (Nat.not_lt_zero _)⟩),aA (fun h=>by cases h),HW⟩
     case round =>
      obtain⟨k,z,b,hk,rfl,rfl,rfl,HF,HT,HWK⟩:=hrel
      rename World=>wy
      have k2:=KA.out wy HWK.out
      cases b
      ·by_cases hkl:k<l.length
       ·obtain⟨ge,oe,rfl,hgE,hce⟩:=HR2.out (by omega)
        have hkI:(k:Int)<(l.length:Int):=by omega
        have qa:∀z:Calm.On wy.heap.size wy,z.1.cell? ⟨g,o+m*2+1,none⟩=some (.slice (some ⟨ge,oe,none⟩) l.length c2):=fun z=>KA.out z.1 (HWK.out.trans (z.2.mono HWK.out.size))
        have qs:∀z:Calm.On wy.heap.size wy,z.1.cell? ⟨gy,oy+i,none⟩=some (.int .i64 s):=fun z=>KY.out z.1 (HWK.out.trans (z.2.mono HWK.out.size))
        have q0:∀z:Calm.On wy.heap.size wy,z.1.cell? ⟨ge,oe+k*2,none⟩=some (.int .i64 (l[k]).1):=fun z=>((HWK.out.trans (z.2.mono HWK.out.size)).cell (p:=⟨ge,oe+k*2,none⟩) (Nat.lt_of_lt_of_le hgE HB.out)).trans (hce k hkl 0 _ rfl)
        have k1:wy.drew.cell? ⟨ge,oe+k*2+1,none⟩=some (.int .i64 (l[k]).2):=(HWK.out.cell (p:=⟨ge,oe+k*2+1,none⟩) (Nat.lt_of_lt_of_le hgE HB.out)).trans (hce k hkl 1 _ rfl)
        have HS1:Hid (∃z:Calm.On wy.heap.size wy,wy.drew=z.1):=aA ⟨⟨wy.drew,aB (Below.refl _ _) 1⟩,rfl⟩
        have HWD:Hid (Below w.heap.size w wy.drew):=aA (aB HWK.out 1)
        have k2d:wy.drew.cell? ⟨g,o+m*2+1,none⟩=some (.slice (some ⟨ge,oe,none⟩) l.length c2):=k2
        have HY1:Hid ((l[k]).1=s→(l[k]).2=Au.lead l s):=aA (fun e=>(Au.lead_at ⟨⟨hkl,e⟩,fun j hj hjk=>(HF.out rfl).2 j hj hjk⟩ hkl).symm)
        have HN1:Hid ((l[k]).1≠s→∀j (h:j<l.length),j<k+1→(l[j]).1≠s):=aA (fun e j h h2=>by
         rcases Nat.lt_or_ge j k with h3|h3
         ·exact(HF.out rfl).2 j h h3
         ·obtain rfl:j=k:=by omega
          exact e)
        have HZM:=aA (HF.out rfl).1
        clear hce
        generalize l[k]=y at *
        by_cases he:y.1=s
        ·have HX:=aA (HY1.out he)
         have hq:(y.1==s)=true:=by rw[beq_iff_eq];exact he
         clear HY1 HN1 he
         go_wp2_with fail
         refine CalmN.region_tree (fun x=>∃z:Calm.On wy.heap.size wy,x=z.1) (.fin [0,1,2,3,4,5,6,7,8,9,10,11,12,13]) (by kernel_rfl) (by kernel_rfl) (fun _ _ d _ _ h=>by cases d <;> exact h) HS1.out ?_
         simp only[CalmN.wpT,CalmN.pickOps,List.getElem?_toArray,List.getElem?_cons_zero,List.getElem?_cons_succ]
         repeat (go_big_quiet_step (fail))
         refine wpQuiet_nil ?_
         clear qa qs q0 k2
         go_wp2
         go_roundw
         case rel=>exact⟨k+1,y.2,true,hkl,rfl,rfl,by go_num,aA (fun h=>by cases h),aA (fun _=>HX.out),HWD⟩
         case measure=>simp[intOf];omega
        ·have HX:=aA (HN1.out he)
         have hq:(y.1==s)=false:=by rw[beq_eq_false_iff_ne];exact he
         clear HY1 HN1 he
         go_wp2_with fail
         refine CalmN.region_tree (fun x=>∃z:Calm.On wy.heap.size wy,x=z.1) (.fin [0,1,2,3,4,5,6,7,8,9,10,11,12,13]) (by kernel_rfl) (by kernel_rfl) (fun _ _ d _ _ h=>by cases d <;> exact h) HS1.out ?_
         simp only[CalmN.wpT,CalmN.pickOps,List.getElem?_toArray,List.getElem?_cons_zero,List.getElem?_cons_succ]
         repeat (go_big_quiet_step (fail))
         refine wpQuiet_nil ?_
         clear qa qs q0 k2 k1 k2d
         go_wp2
         go_roundw
         case rel=>exact⟨k+1,z,false,hkl,rfl,rfl,by go_num,aA (fun _=>⟨HZM.out,HX.out⟩),aA (fun h=>by cases h),HWD⟩
         case measure=>simp[intOf];omega
       ·have HL1:Hid (Au.lead l s = -1):=aA (Au.lead_no fun x hx=>by
         obtain⟨j,hj,rfl⟩:=List.getElem_of_mem hx
         exact(HF.out rfl).2 j hj (by omega))
        have hz:=(HF.out rfl).1
        subst hz
        have HN:=aA (HEND.out (by rw[HL1.out];unfold Au.inR;rw[decide_eq_false (by omega),Bool.false_and]))
        clear HF HT
        go_wp2
        go_ret2
        exact⟨by rw[HN.out];rfl,HWK.out⟩
      ·have hz:=HT.out rfl
       have HZL:=aA hz
       clear hz HF HT
       by_cases hkl:(k:Int)<(l.length:Int)
       all_goals
        by_cases h5:z<0
        ·have HN:=aA (HEND.out (by rw[←HZL.out];unfold Au.inR;rw[decide_eq_false (by omega),Bool.false_and]))
         go_wp2
         go_ret2
         exact⟨by rw[HN.out];rfl,HWK.out⟩
        ·by_cases h6:(ss.length:Int)≤z
         ·have HN:=aA (HEND.out (by rw[←HZL.out];unfold Au.inR;rw[decide_eq_false (p:=z<(ss.length:Int)) (by omega),Bool.and_false]))
          go_wp2
          go_ret2
          exact⟨by rw[HN.out];rfl,HWK.out⟩
         ·obtain⟨m2,hm2⟩:∃m2:Nat,z=(m2:Int):=⟨z.toNat,by omega⟩
          have hml:m2<ss.length:=by omega
          have HQ2:Hid (Au.wlkS ss (m0:Int) (sy.take (i+1))=some (m2:Int)):=aA (by
           rw[HTK.out,HNX.out,←HZL.out,hm2,if_pos (Au.inR_iff.2 ⟨by omega,by omega⟩)])
          subst hm2
          go_wp2
          go_roundw
          case rel=>exact⟨i+1,m2,hlt,hml,rfl,by go_num,HQ2,HWK⟩
          case measure=>simp[intOf];omega
    ·obtain rfl:i=sy.length:=by omega
     rw[List.take_length]at HQ
     go_wp2
     go_ret2
     exact⟨by rw[HQ.out];rfl,HW.out⟩
theorem zct (ss:List StT) (A:Option Addr) (c:Nat) (q:Int) (sy:List Int) (AY:Option Addr) (cY:Nat) (w:World) (hr:bI w w.heap.size A ss) (hn:ss.length≤9223372036854775807) (hy:RdI w w.heap.size AY sy) (hyn:sy.length≤9223372036854775807) :
  Calls Tryz.prog 5 #[.slice A ss.length c,.int .i64 q,.slice AY sy.length cY] w fun e w'=>e=.returned (.bool true)∧Below w.heap.size w w':=by
 have HAL:=aA (fun(x:World)=>zaD x)
 have TG:=aA (fun(x:World) (h:Below w.heap.size w x)=>zcf ss A c w.heap.size x (hr.below h (Nat.le_refl _)) h.size hn)
 have TA:=aA (fun(h1:ss.length≤310) (h2:sy.length≤100) (x:World) (h:Below w.heap.size w x)=>zdI ss A c w.heap.size q sy AY cY w.heap.size x (hr.below h (Nat.le_refl _)) h.size (by omega) (hy.below h (Nat.le_refl _)) h.size (by omega))
 have TB:=aA (fun(h1:ss.length≤310) (h3:∀x∈ss,x.1.length≤300∧x.2.length≤100) (h2:sy.length≤100) (x:World) (h:Below w.heap.size w x)=>zdW ss A c w.heap.size q sy AY cY w.heap.size x (hr.below h (Nat.le_refl _)) h.size (by omega) (fun z hz=>by have:=h3 z hz;omega) (hy.below h (Nat.le_refl _)) h.size (by omega))
 have HGS:=aA (fun(h:Au.greatS ss=false)=>Au.greatS_no.1 h)
 have hyI:(sy.length:Int)≤9223372036854775807:=by omega
 have hnI:(ss.length:Int)≤9223372036854775807:=by omega
 generalize Au.wlkS ss q sy=o at *
 clear hr hy hn hyn
 go_enter Tryz.func5,Tryz.ntmps5
 go_wp2_with fail
 refine(HAL.out _).mono ?_;rintro _ w1 ⟨rfl,hb1⟩
 have HB1:=aA hb1
 clear hb1
 cases hgr:Au.greatS ss with
 | true =>
  rw[hgr]at TG
  clear hgr
  generalize ss.length=n at *
  generalize sy.length=m at *
  go_wp2_with fail
  refine(TG.out _ HB1.out).mono ?_;rintro _ w2 ⟨rfl,hb2⟩
  have HB2:=aA (HB1.out.trans (hb2.mono HB1.out.size))
  clear hb2
  go_wp2
  go_ret
  exact⟨rfl,HB2.out⟩
 | false =>
  obtain⟨g1,g2⟩:=HGS.out hgr
  rw[hgr]at TG
  by_cases h100:100<sy.length
  ·have hI:(100:Int)<(sy.length:Int):=by omega
   clear hgr h100 g1 g2 TA TB HGS
   generalize ss.length=n at *
   generalize sy.length=m at *
   go_wp2_with fail
   refine(TG.out _ HB1.out).mono ?_;rintro _ w2 ⟨rfl,hb2⟩
   have HB2:=aA (HB1.out.trans (hb2.mono HB1.out.size))
   clear hb2
   go_wp2
   go_ret
   exact⟨rfl,HB2.out⟩
  ·have hI:(sy.length:Int)≤(100:Int):=by omega
   have TA:=aA (TA.out g1 (by omega))
   have TB:=aA (TB.out g1 g2 (by omega))
   clear hgr h100 g1 g2 HGS
   generalize ss.length=n at *
   generalize sy.length=m at *
   go_wp2_with fail
   refine(TG.out _ HB1.out).mono ?_;rintro _ w2 ⟨rfl,hb2⟩
   have HB2:=aA (HB1.out.trans (hb2.mono HB1.out.size))
   clear hb2
   go_wp2_with fail
   refine(TA.out _ HB2.out).mono ?_;rintro _ w3 ⟨rfl,hb3⟩
   have HB3:=aA (HB2.out.trans (hb3.mono HB2.out.size))
   clear hb3
   go_wp2_with fail
   refine(TB.out _ HB3.out).mono ?_;rintro _ w4 ⟨rfl,hb4⟩
   have HB4:=aA (HB3.out.trans (hb4.mono HB3.out.size))
   clear hb4
   have e1:(o.getD 0==o.getD 0)=true:=by simp
   have e2:(o.isSome==o.isSome)=true:=by simp
   generalize o.getD 0=o1 at *
   generalize o.isSome=o2 at *
   go_wp2
   go_ret
   exact⟨rfl,HB4.out⟩
end Go.Proofs.YtabmfpgpkbndeaaGreat
