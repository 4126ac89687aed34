/- Part of the proofs over this program: LsRef2. -/
import Derived.Test.YtcgclkndkahgaaaGreatKJ
namespace Go.Proofs.YtcgclkndkahgaaaGreat
set_option maxRecDepth 100000
set_option maxHeartbeats 40000000
open Go.RowKit
def Gm.bestG (G:Gm.Gr):List Int:=if Gm.right G=true then Gm.best G (Gm.hts G) else []
def Gm.BI (G:Gm.Gr) (j k:Nat) (b:Int):Prop :=
 (b = -1∧∀m (hm:m<G.rs.length),k≤m→Gm.isBest (Gm.hts G) j G.rs[m]=false) ∨ ∃m,∃hm:m<G.rs.length,b=(m:Int)∧k≤m∧Gm.isBest (Gm.hts G) j G.rs[m]=true∧∀i (h:i<m),k≤i→Gm.isBest (Gm.hts G) j (G.rs[i]'(by omega))=false
theorem Gm.BI.start (G:Gm.Gr) (j:Nat):Gm.BI G j G.rs.length (-1):=.inl ⟨rfl,fun m hm h=>absurd hm (by omega)⟩
theorem Gm.BI.yes {G:Gm.Gr} {j k:Nat} (hk:k<G.rs.length) (h:Gm.isBest (Gm.hts G) j G.rs[k]=true):Gm.BI G j k (k:Int):=.inr ⟨k,hk,rfl,Nat.le_refl _,h,fun i hi hki=>absurd hi (by omega)⟩
theorem Gm.BI.no {G:Gm.Gr} {j k:Nat} {b:Int} (x:Gm.BI G j (k+1) b) (hk:k<G.rs.length) (h:Gm.isBest (Gm.hts G) j G.rs[k]=false):Gm.BI G j k b:=by
 have hs:∀(i:Nat) (hi:i<G.rs.length),i=k→Gm.isBest (Gm.hts G) j G.rs[i]=false:=fun i hi e=>by subst e;exact h
 rcases x with⟨e,h1⟩|⟨m,hm,e,h1,h2,h3⟩
 ·refine .inl ⟨e,fun m hm hkm=>?_⟩
  rcases Nat.lt_or_ge k m with h4|h4
  ·exact h1 m hm h4
  ·exact hs m hm (by omega)
 ·refine .inr ⟨m,hm,e,by omega,h2,fun i hi hki=>?_⟩
  rcases Nat.lt_or_ge k i with h4|h4
  ·exact h3 i hi h4
  ·exact hs i (by omega) (by omega)
theorem Gm.BI.last {G:Gm.Gr} {j:Nat} {b:Int} (x:Gm.BI G j 0 b):b=Gm.best1 G (Gm.hts G) j:=by
 unfold Gm.best1
 rcases x with⟨e,h1⟩|⟨m,hm,e,_,h2,h3⟩
 ·have:(List.range G.rs.length).find? (fun i=>(G.rs[i]?).any (Gm.isBest (Gm.hts G) j))=none:=by
   rw[List.find?_eq_none]
   intro i hi
   have hi:=List.mem_range.1 hi
   rw[List.getElem?_eq_getElem hi,Option.any_some,h1 i hi (Nat.zero_le _)];simp
  rw[this,e]
 ·have:(List.range G.rs.length).find? (fun i=>(G.rs[i]?).any (Gm.isBest (Gm.hts G) j))=some m:=by
   rw[List.find?_range_eq_some]
   refine⟨by rw[List.getElem?_eq_getElem hm,Option.any_some,h2],List.mem_range.2 hm,fun i hi=>?_⟩
   rw[List.getElem?_eq_getElem (by omega),Option.any_some,h3 i hi (Nat.zero_le _)];rfl
  rw[this,e]
theorem Gm.best_take {G:Gm.Gr} {n:Nat} (h:n<G.ns.length):(Gm.best G (Gm.hts G)).take (n+1)=(Gm.best G (Gm.hts G)).take n++[Gm.best1 G (Gm.hts G) n]:=by
 rw[L.take_snoc _ n (by rw[Gm.best_len];exact h)]
 congr 2
 have h1:=Gm.best_at (G:=G) h
 rw[List.getD_eq_getElem?_getD,List.getElem?_eq_getElem (by rw[Gm.best_len];exact h)]at h1 ⊢
 simpa using h1
theorem zaY (v:Value) (G:Gm.Gr) (B:Nat) (w:World) (hg:aN w B v G) (hf:Gm.Fit G) (hB:B≤w.heap.size) :
  Calls Tryz.prog 13 #[v] w (zgp (Gm.bestG G) w):=by
 have H1:=aA (fun(x:World) (h:Below w.heap.size w x)=>zaP v G B x (hg.below h hB) hf (Nat.le_trans hB h.size))
 obtain⟨AT,cT,AN,cN,AR,cR,rfl,_,⟨hlN,hmN⟩,⟨hlR,hmR⟩,_,_,hR⟩:=hg
 have HS0:=aA (One.start w #[.slice AT G.ts.length cT,.slice AN G.ns.length cN,.slice AR G.rs.length cR,.int .i64 G.st])
 have HRl:=aA hR
 have HB:=aA hB
 have HFT:=aA hf
 clear hf hR hB
 cases q:Gm.right G
 ·rw[q]at H1
  have HE:Hid (Gm.bestG G=[]):=aA (by unfold Gm.bestG;rw[q];rfl)
  clear q
  go_enter Tryz.func13,Tryz.ntmps13
  go_wp2_with fail
  refine(H1.out _ HS0.out.below).mono ?_;rintro _ w2 ⟨_,hq⟩
  obtain⟨rfl,hb⟩:=hq rfl
  have HB2:=aA (HS0.out.on hb)
  clear hb hq
  go_wp2
  go_loop [5,4] (fun vi vo=>vi=.int .i64 0∧vo=.slice none 0 0) (fun _ _=>0)
  case atStart=>exact⟨rfl,rfl⟩
  case round =>
   obtain⟨rfl,rfl⟩:=hrel
   go_wp2
   go_ret
   exact⟨_,rfl,by rw[HE.out];exact aJ.nil _ _,HB2.out.below⟩
 ·have HOK:=aA (Gm.right_ok.1 q)
  have HN:Hid (1≤G.ns.length∧G.ns.length≤16):=aA (by have:=(Gm.nons_iff G).1 HOK.out.n;exact⟨this.1,this.2.1⟩)
  have HR40:Hid (1≤G.rs.length∧G.rs.length≤40):=aA ⟨HOK.out.r1,HOK.out.r40⟩
  have HE:Hid (Gm.bestG G=Gm.best G (Gm.hts G)):=aA (by unfold Gm.bestG;rw[if_pos q])
  have H1:=aA (fun x h=>(H1.out x h).mono (fun e w' k=>k.1 q))
  clear q
  have hlen:(G.ns.length:Int)≤9223372036854775807:=by have:=HN.out;omega
  have hlen2:(G.rs.length:Int)≤9223372036854775807:=by have:=HR40.out;omega
  rw[Gm.htI_len]at H1
  go_enter Tryz.func13,Tryz.ntmps13
  go_wp2_with fail
  refine(H1.out _ HS0.out.below).mono ?_;rintro _ w2 ⟨gH,rfl,hgH,huH,hb⟩
  have HB2:=aA (HS0.out.on hb)
  have HU2:=aA huH
  have HG2:Hid (gH<w2.heap.size∧w.heap.size+1≤w2.heap.size):=aA ⟨huH.lt,HB2.out.size⟩
  have HHB:Hid (∀j,(Gm.hts G).getD j 0≤1000000):=aA (fun j=>Nat.le_trans (Gm.hts_le HOK.out j) (by have:=HN.out;omega))
  have HRH:=aA (fun(x:Gm.Rl) (hx:x∈G.rs) (A':Option Addr) (c':Nat) (y:World) (hr:RdI y B A' x.r) (ho:UBI y gH (oiN (Gm.hts G))) (hBy:B≤y.heap.size)=>zcU x (Gm.hts G) A' (some ⟨gH,0,none⟩) c' G.ns.length B y.heap.size y hr (ho.rd0 ho.lt) hBy (Nat.le_refl _) (HFT.out.r x hx).2.2 (fun z hz h=>by rw[Gm.hts_len];exact HOK.out.sin x hx z hz h) HHB.out (by have:=(Gm.rule_in (HOK.out.rr x hx)).1;omega))
  rw[Gm.hts_len]at HRH
  clear hgH huH hb H1 HS0
  go_wp2
  go_loopw [5,4] (fun vn vo wr=>∃(n:Nat) (VO:Value),VO=vo∧n≤G.ns.length∧vn=.int .i64 n∧Hid (aJ wr w2.heap.size VO ((Gm.best G (Gm.hts G)).take n))∧Hid (UBI wr gH (oiN (Gm.hts G)))∧Hid (One w #[.slice AT G.ts.length cT,.slice AN G.ns.length cN,.slice AR G.rs.length cR,.int .i64 G.st] wr)∧Hid (w2.heap.size≤wr.heap.size)) (fun vn _ _=>G.ns.length-(intOf vn).toNat)
  case atStart=>exact⟨0,_,rfl,Nat.zero_le _,rfl,aA (aJ.nil _ _),HU2,HB2,aA (Nat.le_refl _)⟩
  case round =>
   clear HU2 HB2
   obtain⟨n,VO,rfl,hn,rfl,HO,HU,HW,HZ⟩:=hrel
   obtain⟨wo,hwo⟩:∃wo:World,wo=wr:=⟨_,rfl⟩
   subst hwo
   by_cases hlt:n<G.ns.length
   ·have q2:=HW.out.c 2 _ rfl
    have ld:w.heap.size<wo.heap.size:=HW.out.size
    have hwl:IntKind.i64.wrap ((G.rs.length:Int)-1)=(G.rs.length:Int)-1:=IntWalk.i64_in _ (by have:=HR40.out;omega)
    go_wp2
    go_loopw [6,7] (fun vb vi wr=>∃(k:Nat) (b:Int),k≤G.rs.length∧vb=.int .i64 b∧vi=.int .i64 ((k:Int)-1)∧Hid (Gm.BI G n k b)∧Hid (aJ wr w2.heap.size VO ((Gm.best G (Gm.hts G)).take n))∧Hid (UBI wr gH (oiN (Gm.hts G)))∧Hid (One w #[.slice AT G.ts.length cT,.slice AN G.ns.length cN,.slice AR G.rs.length cR,.int .i64 G.st] wr)∧Hid (w2.heap.size≤wr.heap.size)) (fun _ vi _=>(intOf vi+1).toNat)
    case atStart=>exact⟨G.rs.length,-1,Nat.le_refl _,rfl,rfl,aA (Gm.BI.start G n),HO,HU,HW,HZ⟩
    case round =>
     clear HO HU HW HZ q2 ld hwl
     obtain⟨k,b,hk,rfl,rfl,HBI,HO,HU,HW,HZ⟩:=hrel
     rcases k with _|k
     ·have HBE:=aA (HBI.out.last)
      have d0:decide ((0:Int)≤((0:Nat):Int)-1)=false:=by decide
      have d1:decide ((0:Int) ≤ -1)=false:=by decide
      have HOX:Hid (((Gm.best G (Gm.hts G)).take n).length≤1000000000000):=aA (by rw[List.length_take];have:=HN.out;omega)
      have HSS:Hid (∀o:Obj,w2.heap.size≤(wr.alloc o).heap.size):=aA (fun o=>by have:=HZ.out;simp;omega)
      have HBT:Hid ((Gm.best G (Gm.hts G)).take n++[b]=(Gm.best G (Gm.hts G)).take (n+1)):=aA (by rw[Gm.best_take hlt,HBE.out])
      clear HBI HBE
      go_wp2_with (at_builtin;refine zaU rfl (.tmp 54) (.tmp 56) _ rfl Tryz.underlying30 w2.heap.size _ _ rfl (HO.out.alloc _) _ 1 b rfl (World.cell?_alloc_new _ _ _ 0) HOX.out (HSS.out _) ?_;intro v2 w3 ho2 hg2)
      have hlk:=fun k e=>(World.ownsRow.lt (HO.out.alloc (.cells #[.int .i64 b] 3)) k e).1
      have HO2:Hid (aJ w3 w2.heap.size v2 ((Gm.best G (Gm.hts G)).take (n+1))):=aA (by rw[←HBT.out];exact ho2)
      have HU2:Hid (UBI w3 gH (oiN (Gm.hts G))):=aA ((hg2.block gH (by have:=HU.out.lt;simp;omega) (fun e=>by have:=hlk gH e.symm;have:=HG2.out;omega)).trans (HU.out.alloc _))
      have HW2:=aA (Below.grown (HW.out.alloc (.cells #[.int .i64 b] 3)) hg2 (Nat.le_trans HG2.out.2 (HSS.out _)) (fun k e=>by have:=hlk k e;have:=HG2.out;omega))
      have HZ2:Hid (w2.heap.size≤w3.heap.size):=aA (Nat.le_trans (HSS.out (.cells #[.int .i64 b] 3)) hg2.size)
      clear ho2 hg2 hlk
      go_wp2
      go_roundw
      case rel=>exact⟨n+1,_,rfl,hlt,by go_num,HO2,HU2,HW2,HZ2⟩
      case measure=>simp[intOf];omega
     ·have e1:(((k+1:Nat):Int)-1)=(k:Int):=by omega
      rw[e1]
      have hk2:k<G.rs.length:=by omega
      obtain⟨g,o,rfl,hgB,hc⟩:=HRl.out (by omega)
      obtain⟨k0,⟨A',c',k1,u1,u2,hri⟩,k2⟩:=hc k hk2
      have hgW:g<wr.heap.size:=by have:=HB.out;have:=HW.out.below.size;omega
      have lw:w.heap.size<wr.heap.size:=HW.out.size
      have q2:=fun y:Calm.On wr.heap.size wr=>(y.2.cell (p:=⟨w.heap.size,2,none⟩) lw).trans (HW.out.c 2 _ rfl)
      have k0:=fun y:Calm.On wr.heap.size wr=>(y.2.cell (p:=⟨g,o+k*3,none⟩) hgW).trans ((HW.out.below.cell (p:=⟨g,o+k*3,none⟩) (Nat.lt_of_lt_of_le hgB HB.out)).trans k0)
      have k1:=fun y:Calm.On wr.heap.size wr=>(y.2.cell (p:=⟨g,o+k*3+1,none⟩) hgW).trans ((HW.out.below.cell (p:=⟨g,o+k*3+1,none⟩) (Nat.lt_of_lt_of_le hgB HB.out)).trans k1)
      have k2:=fun y:Calm.On wr.heap.size wr=>(y.2.cell (p:=⟨g,o+k*3+2,none⟩) hgW).trans ((HW.out.below.cell (p:=⟨g,o+k*3+2,none⟩) (Nat.lt_of_lt_of_le hgB HB.out)).trans k2)
      have hm:=List.getElem_mem hk2
      have hli:=HOK.out.lin _ hm
      have HRHz:=aA (fun(y:World) (hr:RdI y B A' G.rs[k].r) (ho:UBI y gH (oiN (Gm.hts G))) (hb:B≤y.heap.size)=>HRH.out G.rs[k] hm A' c' y hr ho hb)
      have HRI:=aA hri
      have HBY:=aA (Gm.BI.yes (j:=n) hk2)
      have HBO:=aA (HBI.out.no hk2)
      have HIB:Hid (Gm.isBest (Gm.hts G) n G.rs[k]=(G.rs[k].l==(n:Int)&&decide (0<(Gm.hts G).getD n 0)&&Gm.highN (Gm.hts G) G.rs[k].r==(Gm.hts G).getD n 0)):=aA rfl
      have kh0:=HU.out.cell n (by rw[zaJ,Gm.hts_len];exact hlt)
      rw[zdQ]at kh0
      have kh:=fun y:Calm.On wr.heap.size wr=>(y.2.cell (p:=⟨gH,n,none⟩) HU.out.lt).trans kh0
      have lh:=HU.out.lt
      have HSB:Hid (∀z,Below wr.heap.size wr z→∃q:Calm.On wr.heap.size wr,z=q.1):=aA (fun z hz=>⟨⟨z,hz⟩,rfl⟩)
      have HD:Hid (Below wr.heap.size wr wr.drew):=aA (aB (Below.refl _ _) 1)
      have hwk:IntKind.i64.wrap ((k:Int)-1)=(k:Int)-1:=IntWalk.i64_in _ (by have:=HR40.out;omega)
      have hk3:(k:Int)<(G.rs.length:Int):=by omega
      have hn3:(n:Int)<(G.ns.length:Int):=by omega
      have dk:decide ((0:Int)≤(k:Int))=true:=decide_eq_true (by omega)
      clear hc u1 u2 hri hm hli kh0 e1
      generalize hx:G.rs[k]=x at *
      obtain⟨xl,xr,xp⟩:=x
      simp only at k0 k1 k2 HRHz HIB
      generalize Gm.isBest (Gm.hts G) n ⟨xl,xr,xp⟩=bb at *
      generalize hhn:(Gm.hts G).getD n 0=hn at *
      clear hx hhn
      by_cases c1:xl=(n:Int)
      ·subst c1
       have f1:((n:Int)==(n:Int))=true:=by simp
       by_cases c2:0<hn
       ·have f2':decide (0<hn)=true:=decide_eq_true c2
        rw[f1,f2']at HIB
        go_upto_region 10 with fail
        refine CalmN.region_tree (fun x=>∃y:Calm.On wr.heap.size wr,x=y.1) (.one [0,1,2,3,4,5,6,7,8,9,10,11,12,13,14,15,16,17,18,19,20,21,23,24,25,26] 22 (.fin [27,28])) (by kernel_rfl) (by kernel_rfl) (fun _ _ d _ _ h=>by cases d <;> exact h) ⟨⟨wr.drew,HD.out⟩,rfl⟩ ?_
        simp only[CalmN.wpT,CalmN.wpSt,CalmN.pickOps,List.getElem?_toArray,List.getElem?_cons_zero,List.getElem?_cons_succ]
        repeat (go_big_quiet_step (fail))
        refine wpQuiet_nil ?_
        generalize wr.drew=wd at *
        clear q2 k0 k1 k2 kh
        intro KK hKK
        rw[if_pos (by rfl)]
        have hrb:=HRHz.out wd (HRI.out.keep (fun g o hg=>((HW.out.on HD.out).below.cell (p:=⟨g,o,none⟩) (Nat.lt_of_lt_of_le hg HB.out)))) (HU.out.below HD.out HU.out.lt) (Nat.le_trans HB.out (HW.out.on HD.out).below.size)
        have HRB:=aA hrb
        clear hrb HRHz HRI
        generalize Gm.highN (Gm.hts G) xr=hx at *
        go_wp2_with fail
        refine HRB.out.mono ?_;rintro _ we ⟨rfl,hb⟩
        have HE2:=aA (HD.out.trans (hb.mono HD.out.size))
        clear hb
        go_wp2_with fail
        refine hKK _ _ (HSB.out _ HE2.out) (fun x=>∃y:Calm.On wr.heap.size wr,x=y.1) (fun _ h=>h) (HSB.out _ HE2.out) ?_
        clear hKK
        have HOE:=aA (HO.out.below HE2.out (Nat.le_refl _))
        have HUE:=aA (HU.out.below HE2.out HU.out.lt)
        have HWE:=aA (HW.out.on HE2.out)
        have HZE:=aA (Nat.le_trans HZ.out HE2.out.size)
        by_cases c3:hx=hn
        ·subst c3
         have f3:((hx:Int)==(hx:Int))=true:=by simp
         have HBN:=aA (HBY.out (by rw[HIB.out];simp))
         clear HBO HBY HIB c2
         repeat (go_big_quiet_step (fail))
         refine wpQuiet_nil ?_
         go_wp2
         go_roundw
         case rel=>exact⟨k,(k:Int),Nat.le_of_succ_le hk,rfl,rfl,HBN,HOE,HUE,HWE,HZE⟩
         case measure=>simp[intOf]
        ·have f3:((hx:Int)==(hn:Int))=false:=beq_eq_false_iff_ne.2 (by omega)
         have HBN:=aA (HBO.out (by rw[HIB.out];simp[c3]))
         clear HBO HBY HIB c2 c3
         repeat (go_big_quiet_step (fail))
         refine wpQuiet_nil ?_
         go_wp2
         go_roundw
         case rel=>exact⟨k,b,Nat.le_of_succ_le hk,rfl,rfl,HBN,HOE,HUE,HWE,HZE⟩
         case measure=>simp[intOf]
       ·have f2':decide (0<hn)=false:=decide_eq_false c2
        rw[f1,f2']at HIB
        have HBN:=aA (HBO.out (by rw[HIB.out];rfl))
        clear c2 HBO HBY HIB HRHz HRI
        go_upto_region 10 with fail
        refine CalmN.region_tree (fun x=>∃y:Calm.On wr.heap.size wr,x=y.1) (.one [0,1,2,3,4,5,6,7,8,9,10,11,12,13,14,15,16,17,18,19,20,21,23,24,25,26] 22 (.fin [27,28])) (by kernel_rfl) (by kernel_rfl) (fun _ _ d _ _ h=>by cases d <;> exact h) ⟨⟨wr.drew,HD.out⟩,rfl⟩ ?_
        simp only[CalmN.wpT,CalmN.wpSt,CalmN.pickOps,List.getElem?_toArray,List.getElem?_cons_zero,List.getElem?_cons_succ]
        repeat (go_big_quiet_step (fail))
        refine wpQuiet_nil ?_
        generalize wr.drew=wd at *
        clear q2 k0 k1 k2 kh
        intro KK hKK
        rw[zc5 (by rfl)]
        refine hKK _ _ (HSB.out _ HD.out) (fun x=>∃y:Calm.On wr.heap.size wr,x=y.1) (fun _ h=>h) (HSB.out _ HD.out) ?_
        clear hKK
        go_frame
        repeat (go_big_quiet_step (fail))
        refine wpQuiet_nil ?_
        have HOD:=aA (HO.out.below HD.out (Nat.le_refl _))
        have HUD:=aA (HU.out.below HD.out HU.out.lt)
        have HWD:=aA (HW.out.on HD.out)
        have HZD:=aA (Nat.le_trans HZ.out HD.out.size)
        go_wp2
        go_roundw
        case rel=>exact⟨k,b,Nat.le_of_succ_le hk,rfl,rfl,HBN,HOD,HUD,HWD,HZD⟩
        case measure=>simp[intOf]
      ·have f1:(xl==(n:Int))=false:=beq_eq_false_iff_ne.2 c1
       rw[f1]at HIB
       have HBN:=aA (HBO.out (by rw[HIB.out];rfl))
       clear c1 HBO HBY HIB HRHz HRI
       go_upto_region 10 with fail
       refine CalmN.region_tree (fun x=>∃y:Calm.On wr.heap.size wr,x=y.1) (.one [0,1,2,3,4,5,6,7,8,9,10,11,12,13,14,15,16,17,18,19,20,21,23,24,25,26] 22 (.fin [27,28])) (by kernel_rfl) (by kernel_rfl) (fun _ _ d _ _ h=>by cases d <;> exact h) ⟨⟨wr.drew,HD.out⟩,rfl⟩ ?_
       simp only[CalmN.wpT,CalmN.wpSt,CalmN.pickOps,List.getElem?_toArray,List.getElem?_cons_zero,List.getElem?_cons_succ]
       repeat (go_big_quiet_step (fail))
       refine wpQuiet_nil ?_
       generalize wr.drew=wd at *
       clear q2 k0 k1 k2 kh
       intro KK hKK
       rw[zc5 (by rfl)]
       refine hKK _ _ (HSB.out _ HD.out) (fun x=>∃y:Calm.On wr.heap.size wr,x=y.1) (fun _ h=>h) (HSB.out _ HD.out) ?_
       clear hKK
       go_frame
       repeat (go_big_quiet_step (fail))
       refine wpQuiet_nil ?_
       have HOD:=aA (HO.out.below HD.out (Nat.le_refl _))
       have HUD:=aA (HU.out.below HD.out HU.out.lt)
       have HWD:=aA (HW.out.on HD.out)
       have HZD:=aA (Nat.le_trans HZ.out HD.out.size)
       go_wp2
       go_roundw
       case rel=>exact⟨k,b,Nat.le_of_succ_le hk,rfl,rfl,HBN,HOD,HUD,HWD,HZD⟩
       case measure=>simp[intOf]
   ·obtain rfl:n=G.ns.length:=by omega
    rw[List.take_of_length_le (by rw[Gm.best_len];exact Nat.le_refl _)]at HO
    go_wp2
    go_ret
    exact⟨_,rfl,by rw[HE.out];exact HO.out.mono (by have:=HG2.out;omega),HW.out.below⟩
end Go.Proofs.YtcgclkndkahgaaaGreat
