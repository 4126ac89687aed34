/- Part of the proofs over this program: LsRef6, WalkTrees14. -/
import Derived.Test.YtcgclkndkahgaaaGreatKL
namespace Go.Proofs.YtcgclkndkahgaaaGreat
set_option maxRecDepth 100000
set_option maxHeartbeats 40000000
open Go.RowKit
theorem zgw {z:Int} {j:Nat} (h:z∈[-1-(j:Int)]):z = -1-(j:Int):=List.mem_singleton.1 h
theorem ze7 (v:Value) (G:Gm.Gr) (n:Int) (B:Nat) (w:World) (hg:aN w B v G) (hf:Gm.Fit G) (hn:Gm.In n) (hB:B≤w.heap.size) :
  Calls Tryz.prog 15 #[v,.int .i64 n] w (aV (Gm.trL G n) (Gm.trE G n) w):=by
 have H1:=aA (fun(x:World) (h:Below w.heap.size w x)=>zaC v G B x (hg.below h hB) hf (Nat.le_trans hB h.size))
 have H2:=aA (fun(q:Gm.right G=true) (x:World) (h:Below w.heap.size w x)=>(show Calls _ _ _ _ (zgp (Gm.best G (Gm.hts G)) x) from by have:=zaY v G B x (hg.below h hB) hf (Nat.le_trans hB h.size);unfold Gm.bestG at this;rw[if_pos q]at this;exact this))
 have H3:=aA (fun(q:Gm.right G=true) (x:World) (h:Below w.heap.size w x)=>zcd v G B x (hg.below h hB) hf q (Nat.le_trans hB h.size))
 have HGG:=aA (fun(x:World) (h:Below w.heap.size w x)=>hg.below h hB)
 obtain⟨AT,cT,AN,cN,AR,cR,rfl,_,⟨hlN,hmN⟩,_⟩:=hg
 have HS0:=aA (One.start w #[.slice AT G.ts.length cT,.slice AN G.ns.length cN,.slice AR G.rs.length cR,.int .i64 G.st])
 have HF:=aA hf
 have HB:=aA hB
 have HNI:=aA hn
 clear hf hn hB
 cases q:Gm.right G with
 | false =>
  rw[q]at H1
  have HE:=aA (Gm.trE_arg (G:=G) (n:=n) (by rw[q];simp))
  clear q H2 H3
  go_enter Tryz.func15,Tryz.ntmps15
  go_wp2_with fail
  refine(H1.out _ HS0.out.below).mono ?_;rintro _ w2 ⟨rfl,hb⟩
  have HB2:=aA (HS0.out.on hb)
  clear hb
  go_wp2
  go_ret2
  exact aV.no HE.out (Gm.trL_no (by rw[HE.out];decide)) HB2.out.below
 | true =>
  have H2:=aA (H2.out q)
  have H3:=aA (H3.out q)
  have HOK:=aA (Gm.right_ok.1 q)
  have HQ:=aA q
  have HN:=aA ((Gm.nons_iff G).1 HOK.out.n).2.1
  rw[q]at H1
  clear q
  go_enter Tryz.func15,Tryz.ntmps15
  go_wp2_with fail
  refine(H1.out _ HS0.out.below).mono ?_;rintro _ w2 ⟨rfl,hb⟩
  have HB2:=aA (HS0.out.on hb)
  have q0:=HB2.out.c 0 _ rfl
  have q1:=HB2.out.c 1 _ rfl
  have q2:=HB2.out.c 2 _ rfl
  have q3:=HB2.out.c 3 _ rfl
  have hz2:w.heap.size<w2.heap.size:=HB2.out.size
  clear hb H1
  by_cases hn0:n<0
  ·have HE:=aA (Gm.trE_arg (G:=G) (n:=n) (by omega))
   have d0:=decide_eq_true hn0
   clear hn0
   go_wp2
   go_ret2
   exact aV.no HE.out (Gm.trL_no (by rw[HE.out];decide)) HB2.out.below
  ·have d0:=decide_eq_false hn0
   by_cases hn1:n<(G.ns.length:Int)
   ·have d1:decide ((G.ns.length:Int)≤n)=false:=decide_eq_false (by omega)
    obtain⟨j,rfl⟩:∃j:Nat,n=(j:Int):=⟨n.toNat,by omega⟩
    have hj:j<G.ns.length:=by omega
    have dw:IntKind.i64.wrap (-1-(j:Int)) = -1-(j:Int):=IntWalk.i64_in _ (by have:=HN.out;omega)
    clear hn0
    go_upto_region 4 with fail
    refine(H2.out _ HB2.out.below).mono ?_;rintro _ w3 ⟨v3,rfl,ho3,hb3⟩
    obtain⟨A3,c3,rfl,_,_,hr3⟩:=ho3.form
    have HB3:=aA (HB2.out.on hb3)
    have HR3:=aA hr3
    rw[Gm.best_len]
    obtain⟨gb,ob,rfl,hgb,hcb⟩:=hr3 (by rw[Gm.best_len];omega)
    have kb:=hcb j (by rw[Gm.best_len];exact hj)
    have q0':=HB3.out.c 0 _ rfl
    have q1':=HB3.out.c 1 _ rfl
    have q2':=HB3.out.c 2 _ rfl
    have q3':=HB3.out.c 3 _ rfl
    have hz3:w.heap.size<w3.heap.size:=HB3.out.size
    clear ho3 hb3 hr3 hcb q0 q1 q2 q3 hz2 H2
    by_cases hp:Gm.Gn true G.rs (j:Int)
    ·obtain⟨i,hi,hbi,_⟩:=Gm.best_i HOK.out hp
     rw[hbi]at kb
     have d2:decide ((i:Int)<0)=false:=decide_eq_false (by omega)
     have HTE:Hid (Gm.trE G (j:Int)=if(Gm.ltree G [-1-(j:Int)]).length≤300 then 0 else 13):=aA (by unfold Gm.trE;rw[if_pos ⟨HQ.out,by omega,hn1⟩,if_pos (Gm.tr_iff.2 hp)])
     go_upto_region 6 with fail
     go_wp2_with fail
     refine(H3.out _ HB3.out.below).mono ?_;rintro _ w4 ⟨gS,rfl,hgS,huS,hb4⟩
     have hs0:=huS.cell zas j 0 (by rw[Gm.szLD_len];exact hj) _ rfl
     have esz:(Gm.szLD G)[j]'(by rw[Gm.szLD_len];exact hj)=Gm.szCD G [-1-(j:Int)]:=by
      have e1:=Gm.szLD_at (G:=G) hj
      rw[List.getD_eq_getElem?_getD,List.getElem?_eq_getElem (by rw[Gm.szLD_len];exact hj)]at e1
      simp only[Option.getD_some]at e1
      rw[e1,Gm.szND,if_pos hp]
     rw[esz,Nat.add_zero]at hs0
     have hle:=Gm.szCD_le (G:=G) (l:=[-1-(j:Int)])
     have ls:=huS.lt
     have HB4:=aA (HB3.out.on hb4)
     have HR4:=aA (HR3.out.below hb4 (Nat.le_refl _))
     have HZ34:=aA hb4.size
     have p0:=HB4.out.c 0 _ rfl
     have p1:=HB4.out.c 1 _ rfl
     have p2:=HB4.out.c 2 _ rfl
     have p3:=HB4.out.c 3 _ rfl
     have hz4:w.heap.size<w4.heap.size:=HB4.out.size
     clear q0' q1' q2' q3' hz3 kb hb4 huS hgS hgb hbi
     generalize (Gm.szCD G [-1-(j:Int)]).1=s at *
     have hz5:decide ((300:Int)<(s:Int))=decide (300<s):=by rw[Bool.eq_iff_iff,decide_eq_true_eq,decide_eq_true_eq];omega
     by_cases h3:s≤300
     ·have HT0:Hid (Gm.trE G (j:Int)=0):=aA (by rw[HTE.out,if_pos (hle.1 h3)])
      have HTL:Hid (Gm.trL G (j:Int)=oiN (Gm.ltree G [-1-(j:Int)])):=aA (by unfold Gm.trL;rw[if_pos HT0.out])
      have d3:decide (300<s)=false:=decide_eq_false (by omega)
      rw[d3]at hz5
      have HWT:=aA (fun(y:World) (hy:Below w.heap.size w y) (gl cl:Nat) (hrl:RdI y y.heap.size (some ⟨gl,0,none⟩) [-1-(j:Int)]) (hrb:RdI y y.heap.size (some ⟨gb,ob,none⟩) (Gm.best G (Gm.hts G)))=>zeT _ G HOK.out HF.out _ [-1-(j:Int)] (fun z hz hn=>by rw[zgw hz,show -1-(-1-(j:Int))=(j:Int) by omega];exact hp) (Nat.le_refl _) (fun z hz=>by rw[zgw hz];unfold Gm.In;have:=HN.out;omega) (by simp) (some ⟨gl,0,none⟩) (some ⟨gb,ob,none⟩) cl c3 B y.heap.size y.heap.size y (HGG.out y hy) (Nat.le_trans HB.out hy.size) hrl (Nat.le_refl _) hrb (Nat.le_refl _) (by have:=hle.1 h3;omega))
      clear esz HTE hp h3 hle d3
      go_upto_region 8 with fail
      go_wp2_with fail
      obtain⟨hr6,hb6⟩:=zdt w4 [-1-(j:Int)]
      have HB6:=aA (HB4.out.below.trans (hb6.mono HB4.out.below.size))
      refine(HWT.out _ HB6.out _ 1 hr6 ((HR4.out.below hb6 HZ34.out).more (Nat.le_trans HZ34.out hb6.size))).mono ?_;rintro _ wf ⟨v',rfl,ho,hbf⟩
      have HOF:=aA (show aJ wf _ v' (Gm.trL G (j:Int)) from by rw[HTL.out];exact ho)
      have HBF:=aA (HB6.out.trans (hbf.mono HB6.out.size))
      clear ho hbf hr6 hb6
      go_wp2
      go_ret2
      exact aV.yes HT0.out HOF.out HBF.out
     ·have HT0:Hid (Gm.trE G (j:Int)=13):=aA (by rw[HTE.out,if_neg (fun h=>h3 (hle.2 h))])
      have d3:decide (300<s)=true:=decide_eq_true (by omega)
      rw[d3]at hz5
      clear esz HTE hp h3 hle d3
      go_wp2
      go_ret2
      exact aV.no HT0.out (Gm.trL_no (by rw[HT0.out];decide)) HB4.out.below
    ·rw[Gm.best_no HOK.out hj hp]at kb
     have HTE:Hid (Gm.trE G (j:Int)=9):=aA (by unfold Gm.trE;rw[if_pos ⟨HQ.out,by omega,hn1⟩,if_neg (fun h=>hp (Gm.tr_iff.1 h))])
     clear hp H3
     go_wp2
     go_ret2
     exact aV.no HTE.out (Gm.trL_no (by rw[HTE.out];decide)) HB3.out.below
   ·have HE:=aA (Gm.trE_arg (G:=G) (n:=n) (by omega))
    have d1:decide ((G.ns.length:Int)≤n)=true:=decide_eq_true (by omega)
    clear hn0 hn1
    go_wp2
    go_ret2
    exact aV.no HE.out (Gm.trL_no (by rw[HE.out];decide)) HB2.out.below
theorem zbT (v:Value) (G:Gm.Gr) (n:Int) (w:World) (hg:aN w w.heap.size v G) (hf:Gm.Fit G) (hn:Gm.In n) :
  Calls Tryz.prog 4 #[v,.int .i64 n] w fun e w'=>e=.returned (.bool true)∧Below w.heap.size w w':=by
 have HGG:=aA (fun(x:World) (h:Below w.heap.size w x)=>hg.below h (Nat.le_refl _))
 have HAL:=aA (fun(x:World)=>zaL x)
 have TG:=aA (fun(x:World) (h:Below w.heap.size w x)=>za7 v G w.heap.size x (HGG.out x h) h.size)
 have TA:=aA (fun(x:World) (h:Below w.heap.size w x)=>zbW v G n w.heap.size x (HGG.out x h) hf hn h.size)
 have TB:=aA (fun(x:World) (h:Below w.heap.size w x)=>ze7 v G n w.heap.size x (HGG.out x h) hf hn h.size)
 obtain⟨lst,hlst⟩:∃s,s=Gm.trL G n:=⟨_,rfl⟩
 obtain⟨err,herr⟩:∃s,s=Gm.trE G n:=⟨_,rfl⟩
 have HLL:Hid (lst.length≤9223372036854775807):=aA (by rw[hlst];exact Gm.trL_len G n)
 rw[←hlst,←herr]at TA TB
 clear hlst herr
 obtain⟨A0,c0,A1,c1,A2,c2,rfl,_⟩:=hg
 have HQ0:=aA (One.start w #[.slice A0 G.ts.length c0,.slice A1 G.ns.length c1,.slice A2 G.rs.length c2,.int .i64 G.st])
 have HXC:=aA (fun(x:World) (h:One w #[.slice A0 G.ts.length c0,.slice A1 G.ns.length c1,.slice A2 G.rs.length c2,.int .i64 G.st] x)=>And.intro (h.c 0 _ rfl) (And.intro (h.c 1 _ rfl) (And.intro (h.c 2 _ rfl) (h.c 3 _ rfl))))
 clear hf
 go_enter Tryz.func4,Tryz.ntmps4
 go_wp2_with fail
 refine(HAL.out _).mono ?_;rintro _ w1 ⟨rfl,hb1⟩
 have HQ1:=aA (HQ0.out.on hb1)
 obtain⟨x0,x1,x2,x3⟩:=HXC.out w1 HQ1.out
 clear hb1
 cases hgr:Gm.great G with
 | true =>
  rw[hgr]at TG
  go_wp2_with fail
  refine(TG.out _ HQ1.out.below).mono ?_;rintro _ w2 ⟨rfl,hb2⟩
  have HQ2:=aA (HQ1.out.on hb2)
  clear hb2
  go_wp2
  go_ret
  exact⟨rfl,HQ2.out.below⟩
 | false =>
  rw[hgr]at TG
  clear hgr
  go_upto_region 5 with fail
  refine(TG.out _ HQ1.out.below).mono ?_;rintro _ w2 ⟨rfl,hb2⟩
  have HQ2:=aA (HQ1.out.on hb2)
  clear x0 x1 x2 x3 hb2 TG
  obtain⟨x0,x1,x2,x3⟩:=HXC.out w2 HQ2.out
  have l1:w.heap.size<w2.heap.size:=HQ2.out.size
  go_upto_region 6 with fail
  refine(TA.out w2 HQ2.out.below).mono ?_;rintro _ w3 ⟨A3,c3,rfl,_,hr3,hb3⟩
  have HQ3:=aA (HQ2.out.on hb3)
  have HR3:=aA hr3
  clear x0 x1 x2 x3 l1 hr3 hb3
  obtain⟨x0,x1,x2,x3⟩:=HXC.out w3 HQ3.out
  have l1:w.heap.size<w3.heap.size:=HQ3.out.size
  go_upto_region 7 with fail
  refine(TB.out w3 HQ3.out.below).mono ?_;rintro _ w4 ⟨A4,c4,rfl,_,hr4,hb4⟩
  have HQ4:=aA (HQ3.out.on hb4)
  have HI4:=aA (zai A3 A4 c3 c4 lst.length lst w4 (HR3.out.up hb4) hr4 HLL.out rfl)
  have hee:(err==err)=true:=by simp
  clear x0 x1 x2 x3 l1 hr4 hb4
  go_wp2_with fail
  refine HI4.out.mono ?_;rintro _ w5 ⟨rfl,n5,hw5⟩
  have HQ5:Hid (One w #[.slice A0 G.ts.length c0,.slice A1 G.ns.length c1,.slice A2 G.rs.length c2,.int .i64 G.st] w5):=aA (by rw[hw5];exact HQ4.out.drewN _)
  clear hw5
  go_wp2
  go_ret
  exact⟨rfl,HQ5.out.below⟩
end Go.Proofs.YtcgclkndkahgaaaGreat
