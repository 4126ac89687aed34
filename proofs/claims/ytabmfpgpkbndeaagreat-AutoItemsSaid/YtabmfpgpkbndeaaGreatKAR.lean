/- Part of the proofs over this program: RfHas. -/
import Derived.Test.YtabmfpgpkbndeaaGreatKAN
namespace Go.Proofs.YtabmfpgpkbndeaaGreat
set_option maxRecDepth 100000
set_option maxHeartbeats 40000000
open Go.RowKit
theorem zbt (v:Value) (G:Gm.Gr) (B:Nat) (x:Au.It) (w:World) (hg:aT w B v G) (hf:Gm.Fit G) (hB:B≤w.heap.size) :
  Calls Tryz.prog 13 #[v,itV x] w fun e w'=>e=.returned (.bool (Au.hasB G x))∧Below w.heap.size w w':=by
 have HR:=aA (fun y (h:Below w.heap.size w y)=>za6 v G B y (hg.below h hB) hf (Nat.le_trans hB h.size))
 have HRR:=aA (fun(hr:Au.rOk G x.1=true) y (h:Below w.heap.size w y)=>zbA v G B x.1 y (hg.below h hB) hf (Nat.le_trans hB h.size) hr)
 unfold zbU at HRR
 have HRO:=aA (fun(h1:-1≤x.1) (h2:x.1<(G.rs.length:Int))=>Au.rOk_iff.2 (⟨h1,h2⟩:-1≤x.1∧x.1<(G.rs.length:Int)))
 obtain⟨AT,cT,AN,cN,AR,cR,rfl,_⟩:=hg
 obtain⟨bo,hbo⟩:∃bo,bo=Au.hasB G x:=⟨_,rfl⟩
 rw[←hbo]
 unfold Au.hasB Au.isI at hbo
 obtain⟨wb,hwb⟩:∃z,z=(w.alloc (.cells #[.slice AT G.ts.length cT,.slice AN G.ns.length cN,.slice AR G.rs.length cR,.int .i64 G.st] 26)).alloc (.cells #[.int .i64 x.1,.int .i64 x.2] 33):=⟨_,rfl⟩
 have HT:Hid (bH 26 33 w #[.slice AT G.ts.length cT,.slice AN G.ns.length cN,.slice AR G.rs.length cR,.int .i64 G.st] #[.int .i64 x.1,.int .i64 x.2] wb):=aA (by rw[hwb];exact bH.start _ _ _ _ _)
 have q0:∀z:Calm.On wb.heap.size wb,z.1.cell? ⟨w.heap.size,0,none⟩=some (.slice AT G.ts.length cT):=fun z=>(HT.out.on z.2).c1 0 _ rfl
 have q1:∀z:Calm.On wb.heap.size wb,z.1.cell? ⟨w.heap.size,1,none⟩=some (.slice AN G.ns.length cN):=fun z=>(HT.out.on z.2).c1 1 _ rfl
 have q2:∀z:Calm.On wb.heap.size wb,z.1.cell? ⟨w.heap.size,2,none⟩=some (.slice AR G.rs.length cR):=fun z=>(HT.out.on z.2).c1 2 _ rfl
 have q3:∀z:Calm.On wb.heap.size wb,z.1.cell? ⟨w.heap.size,3,none⟩=some (.int .i64 G.st):=fun z=>(HT.out.on z.2).c1 3 _ rfl
 have j0:∀z:Calm.On wb.heap.size wb,z.1.cell? ⟨w.heap.size+1,0,none⟩=some (.int .i64 x.1):=fun z=>(HT.out.on z.2).c2 0 _ rfl
 have j1:∀z:Calm.On wb.heap.size wb,z.1.cell? ⟨w.heap.size+1,1,none⟩=some (.int .i64 x.2):=fun z=>(HT.out.on z.2).c2 1 _ rfl
 have HS0:Hid (∃z:Calm.On wb.heap.size wb,wb.drew=z.1):=aA ⟨⟨wb.drew,aB (Below.refl _ _) 1⟩,rfl⟩
 clear hf hB
 cases hr:Gm.right G
 ·rw[hr]at HR hbo
  rw[Bool.false_and]at hbo
  subst hbo
  clear hr HRR HRO
  go_enter Tryz.func13,Tryz.ntmps13
  go_upto_region 1 with fail
  rw[←hwb]
  clear hwb
  refine CalmN.region_tree (fun x=>∃z:Calm.On wb.heap.size wb,x=z.1) (.one [0] 1 (.one [2,3,4,5,6,7,8,9,10,11,12,13,14,15,16,17,18,19,20,21,22,23,24,25] 26 (.fin [27,28,29,30]))) (by kernel_rfl) (by kernel_rfl) (fun _ _ d _ _ h=>by cases d <;> exact h) HS0.out ?_
  simp only[CalmN.wpT,CalmN.wpSt,CalmN.pickOps,List.getElem?_toArray,List.getElem?_cons_zero,List.getElem?_cons_succ]
  repeat (go_big_quiet_step (fail))
  refine wpQuiet_nil ?_
  intro KK hKK
  rw[if_pos (by rfl)]
  go_wp2_with fail
  refine(HR.out wb.drew (aB HT.out.below 1)).mono ?_;rintro _ w2 ⟨rfl,hb2⟩
  have hb2:Below wb.heap.size wb w2:=(aB (Below.refl _ wb) 1).trans hb2
  have HS2:Hid (∃z:Calm.On wb.heap.size wb,w2=z.1):=aA ⟨⟨w2,hb2⟩,rfl⟩
  have HB2:Hid (Below w.heap.size w w2):=aA (HT.out.below.trans (hb2.mono HT.out.below.size))
  clear hb2
  go_wp2_with fail
  refine hKK _ _ HS2.out _ (fun _ h=>h) HS2.out ?_
  clear hKK
  repeat (go_big_quiet_step (fail))
  refine wpQuiet_nil ?_
  intro KK hKK
  rw[if_neg (by exact(fun h=>absurd (show false=true from h) (by decide)))]
  refine hKK _ _ HS2.out _ (fun _ h=>h) HS2.out ?_
  clear hKK
  simp only[Act.put,List.setIfInBounds_toArray,List.set_cons_succ,List.set_cons_zero]
  repeat (go_big_quiet_step (fail))
  refine wpQuiet_nil ?_
  go_wp2
  go_ret
  exact⟨rfl,HB2.out⟩
 ·rw[hr]at HR hbo
  rw[Bool.true_and]at hbo
  clear hr
  by_cases h1:-1≤x.1
  ·have d1:=decide_eq_true h1
   rw[d1,Bool.true_and]at hbo
   by_cases h2:x.1<(G.rs.length:Int)
   ·have d2:=decide_eq_true h2
    rw[d2,Bool.true_and]at hbo
    have HRX:=aA (HRR.out (HRO.out h1 h2))
    clear HRR HRO h1 h2
    by_cases h3:0≤x.2
    ·have d3:=decide_eq_true h3
     rw[d3,Bool.true_and]at hbo
     clear h3
     generalize Au.sy G x.1=L at *
     go_enter Tryz.func13,Tryz.ntmps13
     go_upto_region 1 with fail
     rw[←hwb]
     clear hwb
     refine CalmN.region_tree (fun x=>∃z:Calm.On wb.heap.size wb,x=z.1) (.one [0] 1 (.one [2,3,4,5,6,7,8,9,10,11,12,13,14,15,16,17,18,19,20,21,22,23,24,25] 26 (.fin [27,28,29,30]))) (by kernel_rfl) (by kernel_rfl) (fun _ _ d _ _ h=>by cases d <;> exact h) HS0.out ?_
     simp only[CalmN.wpT,CalmN.wpSt,CalmN.pickOps,List.getElem?_toArray,List.getElem?_cons_zero,List.getElem?_cons_succ]
     repeat (go_big_quiet_step (fail))
     refine wpQuiet_nil ?_
     intro KK hKK
     rw[if_pos (by rfl)]
     go_wp2_with fail
     refine(HR.out wb.drew (aB HT.out.below 1)).mono ?_;rintro _ w2 ⟨rfl,hb2⟩
     have hb2:Below wb.heap.size wb w2:=(aB (Below.refl _ wb) 1).trans hb2
     have HS2:Hid (∃z:Calm.On wb.heap.size wb,w2=z.1):=aA ⟨⟨w2,hb2⟩,rfl⟩
     have HB2:Hid (Below w.heap.size w w2):=aA (HT.out.below.trans (hb2.mono HT.out.below.size))
     clear hb2
     go_wp2_with fail
     refine hKK _ _ HS2.out _ (fun _ h=>h) HS2.out ?_
     clear hKK
     repeat (go_big_quiet_step (fail))
     refine wpQuiet_nil ?_
     intro KK hKK
     rw[if_pos (by rfl)]
     go_wp2_with fail
     refine(HRX.out w2 HB2.out).mono ?_;rintro _ w3 ⟨A,c,rfl,hl,hm,_,hb3⟩
     have hb3w:=hb3
     have HS3:Hid (∃z:Calm.On wb.heap.size wb,w3=z.1):=aA (by
      obtain⟨z,hz⟩:=HS2.out
      refine⟨⟨w3,?_⟩,rfl⟩
      have h1:Below wb.heap.size wb w2:=by rw[hz];exact z.2
      exact h1.trans (hb3.mono h1.size))
     have HB3:=aA (HB2.out.trans (hb3.mono HB2.out.size))
     have HBO:=aA hbo
     clear hb3 hb3w hbo
     generalize L.length=nl at *
     by_cases h4:x.2≤(nl:Int)
     ·have HB5:=aA (HBO.out.trans (decide_eq_true h4))
      have d4:=decide_eq_true h4
      clear h4
      go_wp2_with fail
      refine hKK _ _ HS3.out _ (fun _ h=>h) HS3.out ?_
      clear hKK
      repeat (go_big_quiet_step (fail))
      refine wpQuiet_nil ?_
      go_wp2
      go_ret
      exact⟨aC HB5.out.symm,HB3.out⟩
     ·have HB5:=aA (HBO.out.trans (decide_eq_false h4))
      have d4:=decide_eq_false h4
      clear h4
      go_wp2_with fail
      refine hKK _ _ HS3.out _ (fun _ h=>h) HS3.out ?_
      clear hKK
      repeat (go_big_quiet_step (fail))
      refine wpQuiet_nil ?_
      go_wp2
      go_ret
      exact⟨aC HB5.out.symm,HB3.out⟩
    ·have d3:=decide_eq_false h3
     rw[d3,Bool.false_and]at hbo
     subst hbo
     clear h3 HRX
     go_enter Tryz.func13,Tryz.ntmps13
     go_upto_region 1 with fail
     rw[←hwb]
     clear hwb
     refine CalmN.region_tree (fun x=>∃z:Calm.On wb.heap.size wb,x=z.1) (.one [0] 1 (.one [2,3,4,5,6,7,8,9,10,11,12,13,14,15,16,17,18,19,20,21,22,23,24,25] 26 (.fin [27,28,29,30]))) (by kernel_rfl) (by kernel_rfl) (fun _ _ d _ _ h=>by cases d <;> exact h) HS0.out ?_
     simp only[CalmN.wpT,CalmN.wpSt,CalmN.pickOps,List.getElem?_toArray,List.getElem?_cons_zero,List.getElem?_cons_succ]
     repeat (go_big_quiet_step (fail))
     refine wpQuiet_nil ?_
     intro KK hKK
     rw[if_pos (by rfl)]
     go_wp2_with fail
     refine(HR.out wb.drew (aB HT.out.below 1)).mono ?_;rintro _ w2 ⟨rfl,hb2⟩
     have hb2:Below wb.heap.size wb w2:=(aB (Below.refl _ wb) 1).trans hb2
     have HS2:Hid (∃z:Calm.On wb.heap.size wb,w2=z.1):=aA ⟨⟨w2,hb2⟩,rfl⟩
     have HB2:Hid (Below w.heap.size w w2):=aA (HT.out.below.trans (hb2.mono HT.out.below.size))
     clear hb2
     go_wp2_with fail
     refine hKK _ _ HS2.out _ (fun _ h=>h) HS2.out ?_
     clear hKK
     repeat (go_big_quiet_step (fail))
     refine wpQuiet_nil ?_
     intro KK hKK
     rw[if_neg (by exact(fun h=>absurd (show false=true from h) (by decide)))]
     refine hKK _ _ HS2.out _ (fun _ h=>h) HS2.out ?_
     clear hKK
     simp only[Act.put,List.setIfInBounds_toArray,List.set_cons_succ,List.set_cons_zero]
     repeat (go_big_quiet_step (fail))
     refine wpQuiet_nil ?_
     go_wp2
     go_ret
     exact⟨rfl,HB2.out⟩
   ·have d2:=decide_eq_false h2
    rw[d2,Bool.false_and,Bool.false_and]at hbo
    subst hbo
    clear h1 h2 HRR HRO
    go_enter Tryz.func13,Tryz.ntmps13
    go_upto_region 1 with fail
    rw[←hwb]
    clear hwb
    refine CalmN.region_tree (fun x=>∃z:Calm.On wb.heap.size wb,x=z.1) (.one [0] 1 (.one [2,3,4,5,6,7,8,9,10,11,12,13,14,15,16,17,18,19,20,21,22,23,24,25] 26 (.fin [27,28,29,30]))) (by kernel_rfl) (by kernel_rfl) (fun _ _ d _ _ h=>by cases d <;> exact h) HS0.out ?_
    simp only[CalmN.wpT,CalmN.wpSt,CalmN.pickOps,List.getElem?_toArray,List.getElem?_cons_zero,List.getElem?_cons_succ]
    repeat (go_big_quiet_step (fail))
    refine wpQuiet_nil ?_
    intro KK hKK
    rw[if_pos (by rfl)]
    go_wp2_with fail
    refine(HR.out wb.drew (aB HT.out.below 1)).mono ?_;rintro _ w2 ⟨rfl,hb2⟩
    have hb2:Below wb.heap.size wb w2:=(aB (Below.refl _ wb) 1).trans hb2
    have HS2:Hid (∃z:Calm.On wb.heap.size wb,w2=z.1):=aA ⟨⟨w2,hb2⟩,rfl⟩
    have HB2:Hid (Below w.heap.size w w2):=aA (HT.out.below.trans (hb2.mono HT.out.below.size))
    clear hb2
    go_wp2_with fail
    refine hKK _ _ HS2.out _ (fun _ h=>h) HS2.out ?_
    clear hKK
    repeat (go_big_quiet_step (fail))
    refine wpQuiet_nil ?_
    intro KK hKK
    rw[if_neg (by exact(fun h=>absurd (show false=true from h) (by decide)))]
    refine hKK _ _ HS2.out _ (fun _ h=>h) HS2.out ?_
    clear hKK
    simp only[Act.put,List.setIfInBounds_toArray,List.set_cons_succ,List.set_cons_zero]
    repeat (go_big_quiet_step (fail))
    refine wpQuiet_nil ?_
    go_wp2
    go_ret
    exact⟨rfl,HB2.out⟩
  ·have d1:=decide_eq_false h1
   rw[d1,Bool.false_and,Bool.false_and,Bool.false_and]at hbo
   subst hbo
   clear h1 HRR HRO
   go_enter Tryz.func13,Tryz.ntmps13
   go_upto_region 1 with fail
   rw[←hwb]
   clear hwb
   refine CalmN.region_tree (fun x=>∃z:Calm.On wb.heap.size wb,x=z.1) (.one [0] 1 (.one [2,3,4,5,6,7,8,9,10,11,12,13,14,15,16,17,18,19,20,21,22,23,24,25] 26 (.fin [27,28,29,30]))) (by kernel_rfl) (by kernel_rfl) (fun _ _ d _ _ h=>by cases d <;> exact h) HS0.out ?_
   simp only[CalmN.wpT,CalmN.wpSt,CalmN.pickOps,List.getElem?_toArray,List.getElem?_cons_zero,List.getElem?_cons_succ]
   repeat (go_big_quiet_step (fail))
   refine wpQuiet_nil ?_
   intro KK hKK
   rw[if_pos (by rfl)]
   go_wp2_with fail
   refine(HR.out wb.drew (aB HT.out.below 1)).mono ?_;rintro _ w2 ⟨rfl,hb2⟩
   have hb2:Below wb.heap.size wb w2:=(aB (Below.refl _ wb) 1).trans hb2
   have HS2:Hid (∃z:Calm.On wb.heap.size wb,w2=z.1):=aA ⟨⟨w2,hb2⟩,rfl⟩
   have HB2:Hid (Below w.heap.size w w2):=aA (HT.out.below.trans (hb2.mono HT.out.below.size))
   clear hb2
   go_wp2_with fail
   refine hKK _ _ HS2.out _ (fun _ h=>h) HS2.out ?_
   clear hKK
   repeat (go_big_quiet_step (fail))
   refine wpQuiet_nil ?_
   intro KK hKK
   rw[if_neg (by exact(fun h=>absurd (show false=true from h) (by decide)))]
   refine hKK _ _ HS2.out _ (fun _ h=>h) HS2.out ?_
   clear hKK
   simp only[Act.put,List.setIfInBounds_toArray,List.set_cons_succ,List.set_cons_zero]
   repeat (go_big_quiet_step (fail))
   refine wpQuiet_nil ?_
   go_wp2
   go_ret
   exact⟨rfl,HB2.out⟩
theorem zb2 (v:Value) (G:Gm.Gr) (B:Nat) (x:Au.It) (w:World) (hg:aT w B v G) (hf:Gm.Fit G) (hB:B≤w.heap.size) :
  Calls Tryz.prog 11 #[v,itV x] w fun e w'=>e=.returned (.tuple #[.int .i64 ((Au.nextO G x).getD 0),.bool (Au.nextO G x).isSome])∧Below w.heap.size w w':=by
 have HR:=aA (fun y (h:Below w.heap.size w y)=>zbt v G B x y (hg.below h hB) hf (Nat.le_trans hB h.size))
 have HA:=aA (fun hx y (h:Below w.heap.size w y)=>zbs v G B x y (hg.below h hB) hf (Nat.le_trans hB h.size) hx)
 obtain⟨AT,cT,AN,cN,AR,cR,rfl,_⟩:=hg
 have HS0:=aA (bH.start 26 33 w #[.slice AT G.ts.length cT,.slice AN G.ns.length cN,.slice AR G.rs.length cR,.int .i64 G.st] #[.int .i64 x.1,.int .i64 x.2])
 have g0:=HS0.out.c1 0 _ rfl
 have g1:=HS0.out.c1 1 _ rfl
 have g2:=HS0.out.c1 2 _ rfl
 have g3:=HS0.out.c1 3 _ rfl
 have i0:=HS0.out.c2 0 _ rfl
 have i1:=HS0.out.c2 1 _ rfl
 clear hf
 cases hr:Au.hasB G x
 ·have hq:Au.nextO G x=none:=by
   unfold Au.nextO Au.nxP
   unfold Au.hasB at hr
   cases h1:Gm.right G
   ·rfl
   ·rw[h1,Bool.true_and]at hr
    rw[hr];rfl
  rw[hr]at HR
  rw[hq]
  clear hr HA hq
  go_enter Tryz.func11,Tryz.ntmps11
  go_wp2_with fail
  refine(HR.out _ HS0.out.below).mono ?_;rintro _ w2 ⟨rfl,hb⟩
  have HB:=aA (HS0.out.on hb)
  clear hb g0 g1 g2 g3 i0 i1
  go_wp2
  go_ret2
  exact⟨rfl,HB.out.below⟩
 ·have hx:Au.isI G x=true:=by
   unfold Au.hasB at hr
   cases h1:Gm.right G
   ·rw[h1,Bool.false_and]at hr;cases hr
   ·rw[h1,Bool.true_and]at hr;exact hr
  have hq:Au.nextO G x=Au.nx G x:=by
   unfold Au.nextO Au.nxP
   unfold Au.hasB at hr
   cases h1:Gm.right G
   ·rw[h1,Bool.false_and]at hr;cases hr
   ·rw[hx];rfl
  have HA:=aA (HA.out hx)
  rw[hr]at HR
  rw[hq]
  clear hr hq hx
  generalize Au.nx G x=b at *
  go_enter Tryz.func11,Tryz.ntmps11
  go_wp2_with fail
  refine(HR.out _ HS0.out.below).mono ?_;rintro _ w2 ⟨rfl,hb⟩
  have HB:=aA (HS0.out.on hb)
  have g0:=HB.out.c1 0 _ rfl
  have g1:=HB.out.c1 1 _ rfl
  have g2:=HB.out.c1 2 _ rfl
  have g3:=HB.out.c1 3 _ rfl
  have i0:=HB.out.c2 0 _ rfl
  have i1:=HB.out.c2 1 _ rfl
  clear hb
  go_wp2_with fail
  refine(HA.out _ HB.out.below).mono ?_;rintro _ w3 ⟨rfl,hb⟩
  have HB3:=aA (HB.out.on hb)
  clear hb g0 g1 g2 g3 i0 i1
  go_wp2
  go_ret2
  exact⟨rfl,HB3.out.below⟩
end Go.Proofs.YtabmfpgpkbndeaaGreat
