/- Part of the proofs over this program: RfMov, WalkItems15. -/
import Derived.Test.YtabmfpgpkbndeaaGreatKAM
import Derived.Test.YtabmfpgpkbndeaaGreatKAR
namespace Go.Proofs.YtabmfpgpkbndeaaGreat
set_option maxRecDepth 100000
set_option maxHeartbeats 40000000
open Go.RowKit
theorem Au.clo_nil (G:Gm.Gr):Au.clo G []=[]:=by
 refine List.eq_nil_iff_forall_not_mem.2 fun x hx=>?_
 have h:=(Au.clo_mem (G:=G) (l:=[]) (fun _ h=>by cases h)).1 hx
 have key:∀x,Au.Cl G [] x→False:=fun x h=>by
  induction h with
  | of _ h=>cases h
  | on _ _ _ _ _ _ _ _ ih=>exact ih
 exact key x h
theorem zdZ (v:Value) (G:Gm.Gr) (B:Nat) (l:List Au.It) (A:Option Addr) (c BL:Nat) (w:World) (hg:aT w B v G) (hf:Gm.Fit G) (hB:B≤w.heap.size) (hl:RdQ 2 prF w BL A l) (hBL:BL≤w.heap.size) (hlen:l.length≤1000) :
  Calls Tryz.prog 16 #[v,.slice A l.length c] w fun e w'=>∃v',e=.returned v'∧aI 33 2 prF w' w.heap.size v' (Au.closL G l)∧Below w.heap.size w w':=by
 have HG:=aA hg
 have HF:=aA hf
 have HBW:=aA hB
 have HL:=aA hl
 have HBL:=aA hBL
 have HLN:=aA hlen
 obtain⟨AT,cT,AN,cN,AR,cR,rfl,_⟩:=hg
 have HS0:=aA (aZ.start 26 w #[.slice AT G.ts.length cT,.slice AN G.ns.length cN,.slice AR G.rs.length cR,.int .i64 G.st])
 have hlI:(l.length:Int)≤1000:=by omega
 clear hf hB hl hBL hlen
 go_enter Tryz.func16,Tryz.ntmps16
 go_wp2
 go_loopw [5,6] (fun vo vi wr=>∃i:Nat,i≤l.length∧vi=.int .i64 i∧Hid (aI 33 2 prF wr (w.heap.size+1) vo ((l.take i).filter (Au.hasB G)))∧Hid (aZ 26 w #[.slice AT G.ts.length cT,.slice AN G.ns.length cN,.slice AR G.rs.length cR,.int .i64 G.st] wr)) (fun _ vi _=>l.length-(intOf vi).toNat)
 case atStart=>exact⟨0,Nat.zero_le _,rfl,aA (aI.nil _ _),HS0⟩
 case round =>
  obtain⟨i,hi,rfl,HO,HW⟩:=hrel
  obtain⟨Ao,co,rfl,_,_,_⟩:=aI.form HO.out aG
  by_cases hlt:i<l.length
  ·obtain⟨g,o,rfl,hgB,hc⟩:=HL.out (by omega)
   have hgw:g<w.heap.size:=Nat.lt_of_lt_of_le hgB HBL.out
   have hltI:(i:Int)<(l.length:Int):=by omega
   have kk0:∀y:World,Below w.heap.size w y→y.cell? ⟨g,o+i*2,none⟩=some (.int .i64 (l[i]).1):=fun y h=>(h.cell (p:=⟨g,o+i*2,none⟩) hgw).trans (hc i hlt 0 _ rfl)
   have kk1:∀y:World,Below w.heap.size w y→y.cell? ⟨g,o+i*2+1,none⟩=some (.int .i64 (l[i]).2):=fun y h=>(h.cell (p:=⟨g,o+i*2+1,none⟩) hgw).trans (hc i hlt 1 _ rfl)
   have HTK:Hid (l.take (i+1)=l.take i++[l[i]]):=aA (List.take_succ_eq_append_getElem hlt)
   have HLX:Hid (((l.take i).filter (Au.hasB G)).length≤1000):=aA (by
    have h1:=List.length_filter_le (Au.hasB G) (l.take i)
    rw[List.length_take]at h1
    omega)
   have HHA:=aA (fun(y:World) (h:Below w.heap.size w y)=>zbt _ G B l[i] y (HG.out.below h HBW.out) HF.out (Nat.le_trans HBW.out h.size))
   have z0:∀z:Calm.On wr.heap.size wr,z.1.cell? ⟨w.heap.size,0,none⟩=some (.slice AT G.ts.length cT):=fun z=>(HW.out.on z.2).c 0 _ rfl
   have z1:∀z:Calm.On wr.heap.size wr,z.1.cell? ⟨w.heap.size,1,none⟩=some (.slice AN G.ns.length cN):=fun z=>(HW.out.on z.2).c 1 _ rfl
   have z2:∀z:Calm.On wr.heap.size wr,z.1.cell? ⟨w.heap.size,2,none⟩=some (.slice AR G.rs.length cR):=fun z=>(HW.out.on z.2).c 2 _ rfl
   have z3:∀z:Calm.On wr.heap.size wr,z.1.cell? ⟨w.heap.size,3,none⟩=some (.int .i64 G.st):=fun z=>(HW.out.on z.2).c 3 _ rfl
   have q0:∀z:Calm.On wr.heap.size wr,z.1.cell? ⟨g,o+i*2,none⟩=some (.int .i64 (l[i]).1):=fun z=>kk0 z.1 (HW.out.on z.2).below
   have q1:∀z:Calm.On wr.heap.size wr,z.1.cell? ⟨g,o+i*2+1,none⟩=some (.int .i64 (l[i]).2):=fun z=>kk1 z.1 (HW.out.on z.2).below
   have HS0:Hid (∃z:Calm.On wr.heap.size wr,wr.drew=z.1):=aA ⟨⟨wr.drew,aB (Below.refl _ _) 1⟩,rfl⟩
   have KK0:=aA kk0
   have KK1:=aA kk1
   clear hc kk0 kk1
   generalize l[i]=x at *
   generalize htt:(l.take i).filter (Au.hasB G)=tt at *
   have HTT:=aA htt
   clear htt
   go_wp2_with fail
   refine CalmN.region_tree (fun x=>∃z:Calm.On wr.heap.size wr,x=z.1) (.one [0,1,2,3,4] 5 (.fin [])) (by kernel_rfl) (by kernel_rfl) (fun _ _ d _ _ h=>by cases d <;> exact h) HS0.out ?_
   simp only[CalmN.wpT,CalmN.wpSt,CalmN.pickOps,List.getElem?_toArray,List.getElem?_cons_zero,List.getElem?_cons_succ]
   repeat (go_big_quiet_step (fail))
   refine wpQuiet_nil ?_
   intro KK hKK
   rw[if_pos (by rfl)]
   go_wp2_with fail
   refine(HHA.out wr.drew (aB HW.out.below 1)).mono ?_;rintro _ w2 ⟨rfl,hb2⟩
   have hb2:Below wr.heap.size wr w2:=(aB (Below.refl _ wr) 1).trans hb2
   have HS2:Hid (∃z:Calm.On wr.heap.size wr,w2=z.1):=aA ⟨⟨w2,hb2⟩,rfl⟩
   have HW2:=aA (HW.out.on hb2)
   have HO2:=aA (HO.out.below hb2 (Nat.le_refl _))
   clear hb2 z0 z1 z2 z3 q0 q1 HS0
   cases hh:Au.hasB G x
   ·have HE:Hid ((l.take (i+1)).filter (Au.hasB G)=tt):=aA (by rw[HTK.out,List.filter_append,HTT.out,List.filter_cons,if_neg (by rw[hh];decide)];simp)
    clear hh
    go_wp2_with fail
    refine hKK _ _ HS2.out _ (fun _ h=>h) HS2.out ?_
    clear hKK
    refine wpQuiet_nil ?_
    go_wp2
    go_roundw
    case rel=>exact⟨i+1,hlt,by go_num,aA (by rw[HE.out];exact HO2.out),HW2⟩
    case measure=>simp[intOf];omega
   ·have HE:Hid ((l.take (i+1)).filter (Au.hasB G)=tt++[x]):=aA (by rw[HTK.out,List.filter_append,HTT.out,List.filter_cons,if_pos hh];simp)
    clear hh
    have k0:=KK0.out w2 HW2.out.below
    have k1:=KK1.out w2 HW2.out.below
    have HO3:=aA (HO2.out.alloc (.cells #[.int .i64 x.1,.int .i64 x.2] 33))
    have HW3:=aA (HW2.out.alloc (.cells #[.int .i64 x.1,.int .i64 x.2] 33))
    have HNEW:=aA (heap_alloc_new w2 (.cells #[.int .i64 x.1,.int .i64 x.2] 33))
    go_wp2_with fail
    refine hKK _ _ HS2.out _ (fun _ h=>h) HS2.out ?_
    clear hKK
    refine wpQuiet_nil ?_
    go_wp2_with (at_builtin;refine zcj (f:=prF) rfl (.tmp 19) (.tmp 24) _ rfl Tryz.underlying27 _ 16 zbd (by decide) (by decide) (by decide) aG zaI (w.heap.size+1) _ tt rfl HO3.out _ _ x rfl (zbk x _ _ HNEW.out) (by have:=HLX.out;omega) HW3.out.size ?_;intro v5 w5 ho5 hg5)
    have HO5:=aA ho5
    have HW5:=aA (show aZ 26 w _ w5 from Below.grown HW3.out hg5 HW3.out.size (fun k e=>(World.ownsRow.lt HO3.out k e).1))
    clear ho5 hg5 k0 k1
    go_roundw
    case rel=>exact⟨i+1,hlt,by go_num,aA (by rw[HE.out];exact HO5.out),HW5⟩
    case measure=>simp[intOf];omega
  ·obtain rfl:i=l.length:=by omega
   generalize ((l.take l.length).filter (Au.hasB G)).length=n0 at *
   rw[List.take_length]at HO
   have HLX:Hid ((l.filter (Au.hasB G)).length≤1000):=aA (Nat.le_trans (List.length_filter_le _ _) HLN.out)
   by_cases ht:l.filter (Au.hasB G)=[]
   ·have HE:Hid (Au.closL G l=[]):=aA (by
     unfold Au.closL
     by_cases hr:Gm.right G=true
     ·rw[if_pos hr]
      have e:l.filter (Au.isI G)=[]:=by
       rw[←ht]
       congr 1
       funext x
       unfold Au.hasB
       rw[hr,Bool.true_and]
      rw[e,Au.clo_nil]
     ·rw[if_neg hr])
    rw[ht]at HO
    obtain⟨A9,c9,he,_⟩:=aI.form HO.out aG
    injection he with he1 he2 he3
    have he2:n0=0:=he2
    have htI:((n0:Int)==0)=true:=by rw[beq_iff_eq];omega
    clear he1 he2 he3 ht hi
    go_wp2
    go_ret
    exact⟨_,rfl,by rw[HE.out];exact aI.nil _ _,HW.out.below⟩
   ·have hr:Gm.right G=true:=by
     by_cases hr:Gm.right G=true
     ·exact hr
     ·exfalso
      refine ht (List.filter_eq_nil_iff.2 fun x _=>?_)
      unfold Au.hasB
      cases h:Gm.right G
      ·simp
      ·exact absurd h hr
    have e:l.filter (Au.hasB G)=l.filter (Au.isI G):=by
     congr 1
     funext x
     unfold Au.hasB
     rw[hr,Bool.true_and]
    have HE:Hid (Au.closL G l=Au.clo G (l.filter (Au.isI G))):=aA (by unfold Au.closL;rw[if_pos hr])
    have HOK:=aA (Gm.right_ok.1 hr)
    rw[e]at HO HLX ht
    have hin:∀x∈l.filter (Au.isI G),Au.isI G x=true:=fun x hx=>(List.mem_filter.1 hx).2
    generalize l.filter (Au.isI G)=tt at *
    obtain⟨A9,c9,he,_,_,hrd⟩:=aI.form HO.out aG
    injection he with he1 he2 he3
    have he2:n0=tt.length:=he2
    subst he1 he2
    have htl:0<tt.length:=List.length_pos_iff.2 ht
    have htI:((tt.length:Int)==0)=false:=by rw[beq_eq_false_iff_ne];omega
    have HCL:=aA (zcE _ G B tt Ao co wr.heap.size wr (HG.out.below HW.out.below HBW.out) HF.out HOK.out (Nat.le_trans HBW.out (Nat.le_trans (Nat.le_add_right _ 1) HW.out.size)) hrd (Nat.le_refl _) hin HLX.out)
    have z0:=HW.out.c 0 _ rfl
    have z1:=HW.out.c 1 _ rfl
    have z2:=HW.out.c 2 _ rfl
    have z3:=HW.out.c 3 _ rfl
    clear he3 ht e hr hin hrd
    go_wp2_with fail
    refine HCL.out.mono ?_;rintro _ w5 ⟨v5,rfl,ho5,hb5⟩
    obtain⟨A5,c5,rfl,_,_,_⟩:=aI.form ho5 aG
    have HO5:=aA (ho5.mono (base':=w.heap.size) (Nat.le_trans (Nat.le_add_right _ 1) HW.out.size))
    have HW5:=aA (HW.out.on hb5)
    clear ho5 hb5 z0 z1 z2 z3
    go_wp2
    go_ret
    exact⟨_,rfl,by rw[HE.out];exact HO5.out,HW5.out.below⟩
theorem zcv (v:Value) (G:Gm.Gr) (l:List Au.It) (A:Option Addr) (c:Nat) (w:World) (hg:aT w w.heap.size v G) (hf:Gm.Fit G) (hl:RdQ 2 prF w w.heap.size A l) (hin:∀x∈l,Gm.In x.1∧Gm.In x.2) (hlen:l.length≤9223372036854775807) :
  Calls Tryz.prog 3 #[v,.slice A l.length c] w fun e w'=>e=.returned (.bool true)∧Below w.heap.size w w':=by
 have HGG:=aA (fun(x:World) (h:Below w.heap.size w x)=>hg.below h (Nat.le_refl _))
 have HAL:=aA (fun(x:World)=>zaD x)
 have TG:=aA (fun(x:World) (h:Below w.heap.size w x)=>zba v G w.heap.size x (HGG.out x h) h.size)
 have HLR:=aA (fun(x:World) (h:Below w.heap.size w x)=>hl.below h (Nat.le_refl _))
 have HNA:=aA (fun(z:Au.It) (x:World) (h:Below w.heap.size w x)=>zdK v G w.heap.size z x (HGG.out x h) hf h.size)
 have HNR:=aA (fun(z:Au.It) (x:World) (h:Below w.heap.size w x)=>zb2 v G w.heap.size z x (HGG.out x h) hf h.size)
 have HHA:=aA (fun(z:Au.It) (x:World) (h:Below w.heap.size w x)=>zdj v G w.heap.size z x (HGG.out x h) hf h.size)
 have HHR:=aA (fun(z:Au.It) (x:World) (h:Below w.heap.size w x)=>zbt v G w.heap.size z x (HGG.out x h) hf h.size)
 have HCA:=aA (fun(h60:l.length≤1000) (A':Option Addr) (c' B':Nat) (x:World) (h:Below w.heap.size w x) (hr:RdQ 2 prF x B' A' l) (hB:B'≤x.heap.size)=>zck v G w.heap.size l A' c' B' x (HGG.out x h) hf h.size hr hB hin h60)
 have HCR:=aA (fun(h60:l.length≤1000) (x:World) (h:Below w.heap.size w x)=>zdZ v G w.heap.size l A c w.heap.size x (HGG.out x h) hf h.size (HLR.out x h) h.size h60)
 have hlI:(l.length:Int)≤9223372036854775807:=by omega
 obtain⟨AT,cT,AN,cN,AR,cR,rfl,_⟩:=hg
 have HQ0:=aA (aZ.start 26 w #[.slice AT G.ts.length cT,.slice AN G.ns.length cN,.slice AR G.rs.length cR,.int .i64 G.st])
 clear hf hl hin hlen
 go_enter Tryz.func3,Tryz.ntmps3
 go_wp2_with fail
 refine(HAL.out _).mono ?_;rintro _ w1 ⟨rfl,hb1⟩
 have HQ1:=aA (HQ0.out.on hb1)
 have x0:=HQ1.out.c 0 _ rfl
 have x1:=HQ1.out.c 1 _ rfl
 have x2:=HQ1.out.c 2 _ rfl
 have x3:=HQ1.out.c 3 _ rfl
 clear hb1
 cases hgr:Gm.great G with
 | true =>
  rw[hgr]at TG
  clear hgr
  generalize l.length=n at *
  go_wp2_with fail
  refine(TG.out _ HQ1.out.below).mono ?_;rintro _ w2 ⟨rfl,hb2⟩
  have HQ2:=aA (HQ1.out.on hb2)
  clear hb2
  go_wp2
  go_ret
  exact⟨rfl,HQ2.out.below⟩
 | false =>
  rw[hgr]at TG
  clear hgr
  by_cases h60:60<l.length
  ·have hI:(60:Int)<(l.length:Int):=by omega
   clear h60 HCA HCR HLR
   generalize l.length=n at *
   go_wp2_with fail
   refine(TG.out _ HQ1.out.below).mono ?_;rintro _ w2 ⟨rfl,hb2⟩
   have HQ2:=aA (HQ1.out.on hb2)
   clear hb2
   go_wp2
   go_ret
   exact⟨rfl,HQ2.out.below⟩
  ·have hI:(l.length:Int)≤(60:Int):=by omega
   have HCA:=aA (HCA.out (by omega))
   have HCR:=aA (HCR.out (by omega))
   have HLE:Hid (l.length≤60):=aA (by omega)
   clear h60
   go_wp2_with fail
   refine(TG.out _ HQ1.out.below).mono ?_;rintro _ w2 ⟨rfl,hb2⟩
   have HQ2:=aA (HQ1.out.on hb2)
   clear hb2 x0 x1 x2 x3 TG
   go_wp2
   go_loopw [5] (fun vi wr=>∃i:Nat,i≤l.length∧vi=.int .i64 i∧Hid (aZ 26 w #[.slice AT G.ts.length cT,.slice AN G.ns.length cN,.slice AR G.rs.length cR,.int .i64 G.st] wr)) (fun vi _=>l.length-(intOf vi).toNat)
   case atStart=>exact⟨0,Nat.zero_le _,rfl,HQ2⟩
   case round =>
    obtain⟨i,hi,rfl,HW⟩:=hrel
    rename World=>wr
    by_cases hlt:i<l.length
    ·obtain⟨g,o,rfl,hgB,hc⟩:=(HLR.out _ (Below.refl _ _)) (by omega)
     have hltI:(i:Int)<(l.length:Int):=by omega
     have KK0:=aA (fun(y:World) (h:Below w.heap.size w y)=>(h.cell (p:=⟨g,o+i*2,none⟩) hgB).trans (hc i hlt 0 _ rfl))
     have KK1:=aA (fun(y:World) (h:Below w.heap.size w y)=>(h.cell (p:=⟨g,o+i*2+1,none⟩) hgB).trans (hc i hlt 1 _ rfl))
     have HNA:=aA (HNA.out l[i])
     have HNR:=aA (HNR.out l[i])
     have HHA:=aA (HHA.out l[i])
     have HHR:=aA (HHR.out l[i])
     generalize l[i]=x at *
     clear hc
     generalize Au.nextO G x=nx at *
     generalize Au.hasB G x=hb at *
     have e1:(nx.getD 0 != nx.getD 0)=false:=by simp
     have e2:(nx.isSome != nx.isSome)=false:=by simp
     have e3:(hb != hb)=false:=by simp
     generalize nx.getD 0=n1 at *
     generalize nx.isSome=n2 at *
     have HW0:=HW
     have z0:∀z:Calm.On wr.heap.size wr,z.1.cell? ⟨w.heap.size,0,none⟩=some (.slice AT G.ts.length cT):=fun z=>(HW0.out.on z.2).c 0 _ rfl
     have z1:∀z:Calm.On wr.heap.size wr,z.1.cell? ⟨w.heap.size,1,none⟩=some (.slice AN G.ns.length cN):=fun z=>(HW0.out.on z.2).c 1 _ rfl
     have z2:∀z:Calm.On wr.heap.size wr,z.1.cell? ⟨w.heap.size,2,none⟩=some (.slice AR G.rs.length cR):=fun z=>(HW0.out.on z.2).c 2 _ rfl
     have z3:∀z:Calm.On wr.heap.size wr,z.1.cell? ⟨w.heap.size,3,none⟩=some (.int .i64 G.st):=fun z=>(HW0.out.on z.2).c 3 _ rfl
     have HS0:Hid (∃z:Calm.On wr.heap.size wr,wr.drew=z.1):=aA ⟨⟨wr.drew,aB (Below.refl _ _) 1⟩,rfl⟩
     have q0:∀z:Calm.On wr.heap.size wr,z.1.cell? ⟨g,o+i*2,none⟩=some (.int .i64 x.1):=fun z=>KK0.out z.1 (HW0.out.on z.2).below
     have q1:∀z:Calm.On wr.heap.size wr,z.1.cell? ⟨g,o+i*2+1,none⟩=some (.int .i64 x.2):=fun z=>KK1.out z.1 (HW0.out.on z.2).below
     go_wp2_with fail
     refine CalmN.region_tree (fun x=>∃z:Calm.On wr.heap.size wr,x=z.1) (.one [0,1,2,3,4] 5 (.fin [6,7,8,9,10])) (by kernel_rfl) (by kernel_rfl) (fun _ _ d _ _ h=>by cases d <;> exact h) HS0.out ?_
     simp only[CalmN.wpT,CalmN.wpSt,CalmN.pickOps,List.getElem?_toArray,List.getElem?_cons_zero,List.getElem?_cons_succ]
     repeat (go_big_quiet_step (fail))
     refine wpQuiet_nil ?_
     intro KK hKK
     rw[if_pos (by rfl)]
     go_wp2_with fail
     refine(HNA.out wr.drew (aB HW0.out.below 1)).mono ?_;rintro _ v3 ⟨rfl,hb2⟩
     have hb2:Below wr.heap.size wr v3:=(aB (Below.refl _ wr) 1).trans hb2
     have HS2:Hid (∃z:Calm.On wr.heap.size wr,v3=z.1):=aA ⟨⟨v3,hb2⟩,rfl⟩
     have HW1:=aA (HW0.out.on hb2)
     clear hb2 z0 z1 z2 z3 q0 q1 HS0
     go_wp2_with fail
     refine hKK _ _ HS2.out _ (fun _ h=>h) HS2.out ?_
     clear hKK
     repeat (go_big_quiet_step (fail))
     refine wpQuiet_nil ?_
     clear HS2
     have z0:∀z:Calm.On v3.heap.size v3,z.1.cell? ⟨w.heap.size,0,none⟩=some (.slice AT G.ts.length cT):=fun z=>(HW1.out.on z.2).c 0 _ rfl
     have z1:∀z:Calm.On v3.heap.size v3,z.1.cell? ⟨w.heap.size,1,none⟩=some (.slice AN G.ns.length cN):=fun z=>(HW1.out.on z.2).c 1 _ rfl
     have z2:∀z:Calm.On v3.heap.size v3,z.1.cell? ⟨w.heap.size,2,none⟩=some (.slice AR G.rs.length cR):=fun z=>(HW1.out.on z.2).c 2 _ rfl
     have z3:∀z:Calm.On v3.heap.size v3,z.1.cell? ⟨w.heap.size,3,none⟩=some (.int .i64 G.st):=fun z=>(HW1.out.on z.2).c 3 _ rfl
     have HS0:Hid (∃z:Calm.On v3.heap.size v3,v3.drew=z.1):=aA ⟨⟨v3.drew,aB (Below.refl _ _) 1⟩,rfl⟩
     have q0:∀z:Calm.On v3.heap.size v3,z.1.cell? ⟨g,o+i*2,none⟩=some (.int .i64 x.1):=fun z=>KK0.out z.1 (HW1.out.on z.2).below
     have q1:∀z:Calm.On v3.heap.size v3,z.1.cell? ⟨g,o+i*2+1,none⟩=some (.int .i64 x.2):=fun z=>KK1.out z.1 (HW1.out.on z.2).below
     go_wp2_with fail
     refine CalmN.region_tree (fun x=>∃z:Calm.On v3.heap.size v3,x=z.1) (.one [0,1,2,3,4] 5 (.fin [6,7,8,9,10])) (by kernel_rfl) (by kernel_rfl) (fun _ _ d _ _ h=>by cases d <;> exact h) HS0.out ?_
     simp only[CalmN.wpT,CalmN.wpSt,CalmN.pickOps,List.getElem?_toArray,List.getElem?_cons_zero,List.getElem?_cons_succ]
     repeat (go_big_quiet_step (fail))
     refine wpQuiet_nil ?_
     intro KK hKK
     rw[if_pos (by rfl)]
     go_wp2_with fail
     refine(HNR.out v3.drew (aB HW1.out.below 1)).mono ?_;rintro _ v4 ⟨rfl,hb2⟩
     have hb2:Below v3.heap.size v3 v4:=(aB (Below.refl _ v3) 1).trans hb2
     have HS2:Hid (∃z:Calm.On v3.heap.size v3,v4=z.1):=aA ⟨⟨v4,hb2⟩,rfl⟩
     have HW2:=aA (HW1.out.on hb2)
     clear hb2 z0 z1 z2 z3 q0 q1 HS0
     go_wp2_with fail
     refine hKK _ _ HS2.out _ (fun _ h=>h) HS2.out ?_
     clear hKK
     repeat (go_big_quiet_step (fail))
     refine wpQuiet_nil ?_
     clear HS2
     have z0:∀z:Calm.On v4.heap.size v4,z.1.cell? ⟨w.heap.size,0,none⟩=some (.slice AT G.ts.length cT):=fun z=>(HW2.out.on z.2).c 0 _ rfl
     have z1:∀z:Calm.On v4.heap.size v4,z.1.cell? ⟨w.heap.size,1,none⟩=some (.slice AN G.ns.length cN):=fun z=>(HW2.out.on z.2).c 1 _ rfl
     have z2:∀z:Calm.On v4.heap.size v4,z.1.cell? ⟨w.heap.size,2,none⟩=some (.slice AR G.rs.length cR):=fun z=>(HW2.out.on z.2).c 2 _ rfl
     have z3:∀z:Calm.On v4.heap.size v4,z.1.cell? ⟨w.heap.size,3,none⟩=some (.int .i64 G.st):=fun z=>(HW2.out.on z.2).c 3 _ rfl
     have HS0:Hid (∃z:Calm.On v4.heap.size v4,v4.drew=z.1):=aA ⟨⟨v4.drew,aB (Below.refl _ _) 1⟩,rfl⟩
     have q0:∀z:Calm.On v4.heap.size v4,z.1.cell? ⟨g,o+i*2,none⟩=some (.int .i64 x.1):=fun z=>KK0.out z.1 (HW2.out.on z.2).below
     have q1:∀z:Calm.On v4.heap.size v4,z.1.cell? ⟨g,o+i*2+1,none⟩=some (.int .i64 x.2):=fun z=>KK1.out z.1 (HW2.out.on z.2).below
     go_wp2_with fail
     refine CalmN.region_tree (fun x=>∃z:Calm.On v4.heap.size v4,x=z.1) (.one [0,1,2,3,4,6,7,8,9,10] 5 (.one [] 11 (.fin [12,13,14,15,16,17,18,19,20,21,22]))) (by kernel_rfl) (by kernel_rfl) (fun _ _ d _ _ h=>by cases d <;> exact h) HS0.out ?_
     simp only[CalmN.wpT,CalmN.wpSt,CalmN.pickOps,List.getElem?_toArray,List.getElem?_cons_zero,List.getElem?_cons_succ]
     repeat (go_big_quiet_step (fail))
     refine wpQuiet_nil ?_
     intro KK hKK
     rw[if_pos (by rfl)]
     go_wp2_with fail
     refine(HHA.out v4.drew (aB HW2.out.below 1)).mono ?_;rintro _ v5 ⟨rfl,hb2⟩
     have hb2:Below v4.heap.size v4 v5:=(aB (Below.refl _ v4) 1).trans hb2
     have HS2:Hid (∃z:Calm.On v4.heap.size v4,v5=z.1):=aA ⟨⟨v5,hb2⟩,rfl⟩
     have HW3:=aA (HW2.out.on hb2)
     clear z0 z1 z2 z3 q0 q1 HS0
     have HB5:=aA hb2
     clear hb2
     go_wp2_with fail
     refine hKK _ _ HS2.out (fun x=>∃z:Calm.On v4.heap.size v4,x=z.1) (fun _ h=>h) HS2.out ?_
     clear hKK
     refine wpQuiet_nil ?_
     intro KK hKK
     rw[if_pos (by rfl)]
     go_wp2_with fail
     refine(HHR.out v5 HW3.out.below).mono ?_;rintro _ v6 ⟨rfl,hb2⟩
     have HW4:=aA (HW3.out.on hb2)
     have HS3:Hid (∃z:Calm.On v4.heap.size v4,v6=z.1):=aA ⟨⟨v6,HB5.out.trans (hb2.mono HB5.out.size)⟩,rfl⟩
     clear hb2
     go_wp2_with fail
     refine hKK _ _ HS3.out (fun x=>∃z:Calm.On v4.heap.size v4,x=z.1) (fun _ h=>h) HS3.out ?_
     clear hKK
     repeat (go_big_quiet_step (fail))
     refine wpQuiet_nil ?_
     go_wp2
     go_roundw
     case rel=>exact⟨i+1,hlt,by go_num,HW4⟩
     case measure=>simp[intOf];omega
    ·have hni:¬((i:Nat):Int)<((l.length:Nat):Int):=by omega
     have HOE:=aA (zbu (m:=2) (f:=prF) (T:=33) wr)
     have HWA:=aA (HW.out.alloc (.cells #[] 33))
     have HLA:=aA (HLR.out _ HWA.out.below)
     go_upto_region 13 with(at_builtin;refine zdf (f:=prF) rfl (.tmp 67) (.tmp 68) _ rfl Tryz.underlying27 _ 16 zbd (by decide) (by decide) (by decide) aG zaI wr.heap.size _ [] rfl HOE.out w.heap.size l.length c _ l rfl rfl HLA.out (by have:=HLE.out;simp;omega) (by simp) ?_;intro v6 w6 ho6 hg6;rw[List.nil_append]at ho6;obtain⟨A6,c6,rfl,_,_,hrd6⟩:=aI.form ho6 aG)
     have HW6:Hid (aZ 26 w #[.slice AT G.ts.length cT,.slice AN G.ns.length cN,.slice AR G.rs.length cR,.int .i64 G.st] w6):=aA (Below.grown HWA.out hg6 HWA.out.size (fun k e=>Nat.le_trans HW.out.size (World.ownsRow.lt HOE.out k e).1))
     have HR6:=aA hrd6
     clear hni ho6 hg6 hrd6 HWA HLA HOE
     have HCX:=aA (fun(x:World) (h:Below w6.heap.size w6 x)=>HCA.out A6 c6 w6.heap.size x (HW6.out.on h).below (HR6.out.below h (Nat.le_refl _)) h.size)
     have HCY:=aA (fun(x:World) (h:Below w6.heap.size w6 x)=>HCR.out x (HW6.out.on h).below)
     have HOX:=aA (fun(x:World) (h:Below w6.heap.size w6 x)=>zaN l l A6 A c6 c x.heap.size x ((HR6.out.below h (Nat.le_refl _)).more h.size) ((HLR.out x (HW6.out.on h).below).more (HW6.out.on h).below.size) (Nat.le_refl _) (by have:=HLE.out;omega) true (Gm.tr_iff.2 rfl))
     have z0:∀z:Calm.On w6.heap.size w6,z.1.cell? ⟨w.heap.size,0,none⟩=some (.slice AT G.ts.length cT):=fun z=>(HW6.out.on z.2).c 0 _ rfl
     have z1:∀z:Calm.On w6.heap.size w6,z.1.cell? ⟨w.heap.size,1,none⟩=some (.slice AN G.ns.length cN):=fun z=>(HW6.out.on z.2).c 1 _ rfl
     have z2:∀z:Calm.On w6.heap.size w6,z.1.cell? ⟨w.heap.size,2,none⟩=some (.slice AR G.rs.length cR):=fun z=>(HW6.out.on z.2).c 2 _ rfl
     have z3:∀z:Calm.On w6.heap.size w6,z.1.cell? ⟨w.heap.size,3,none⟩=some (.int .i64 G.st):=fun z=>(HW6.out.on z.2).c 3 _ rfl
     have HS0:Hid (∃z:Calm.On w6.heap.size w6,w6.drew=z.1):=aA ⟨⟨w6.drew,aB (Below.refl _ _) 1⟩,rfl⟩
     go_wp2_with fail
     refine CalmN.region_tree (fun x=>∃z:Calm.On w6.heap.size w6,x=z.1) (.one [0,1,3,4] 2 (.one [] 5 (.one [] 6 (.one [7,8,9] 10 (.fin [11,12]))))) (by kernel_rfl) (by kernel_rfl) (fun _ _ d _ _ h=>by cases d <;> exact h) HS0.out ?_
     simp only[CalmN.wpT,CalmN.wpSt,CalmN.pickOps,List.getElem?_toArray,List.getElem?_cons_zero,List.getElem?_cons_succ]
     repeat (go_big_quiet_step (fail))
     refine wpQuiet_nil ?_
     intro KK hKK
     rw[if_pos (by rfl)]
     go_wp2_with fail
     refine(HCX.out w6.drew (aB (Below.refl _ _) 1)).mono ?_;rintro _ w7 ⟨v7,rfl,ho7,hb7⟩
     have HB7:Hid (Below w6.heap.size w6 w7):=aA ((aB (Below.refl _ w6) 1).trans hb7)
     obtain⟨A7,c7,rfl,hl7,hm7,hrd7⟩:=aI.form ho7 aG
     have HR7:=aA hrd7
     have HL7:Hid ((Au.closL G l).length≤9223372036854775807):=aA (by unfold maxLen at hm7;omega)
     clear ho7 hb7 hl7 hm7 hrd7 z0 z1 z2 z3
     go_wp2_with fail
     refine hKK _ _ ⟨⟨_,HB7.out⟩,rfl⟩ (fun x=>∃z:Calm.On w6.heap.size w6,x=z.1) (fun _ h=>h) ⟨⟨_,HB7.out⟩,rfl⟩ ?_
     clear hKK
     refine wpQuiet_nil ?_
     intro KK hKK
     rw[if_pos (by rfl)]
     go_wp2_with fail
     refine(HCY.out w7 HB7.out).mono ?_;rintro _ w8 ⟨v8,rfl,ho8,hb8⟩
     have HB8:Hid (Below w6.heap.size w6 w8):=aA (HB7.out.trans (hb8.mono HB7.out.size))
     obtain⟨A8,c8,rfl,_,_,hrd8⟩:=aI.form ho8 aG
     have HIX:=aA (zaN (Au.closL G l) (Au.closL G l) A7 A8 c7 c8 w8.heap.size w8 ((HR7.out.below hb8 (Nat.le_refl _)).more hb8.size) hrd8 (Nat.le_refl _) HL7.out true (Gm.tr_iff.2 rfl))
     clear ho8 hb8 hrd8
     go_wp2_with fail
     refine hKK _ _ ⟨⟨_,HB8.out⟩,rfl⟩ (fun x=>∃z:Calm.On w6.heap.size w6,x=z.1) (fun _ h=>h) ⟨⟨_,HB8.out⟩,rfl⟩ ?_
     clear hKK
     refine wpQuiet_nil ?_
     intro KK hKK
     rw[if_pos (by rfl)]
     go_wp2_with fail
     refine HIX.out.mono ?_;rintro _ w9 ⟨rfl,hb9⟩
     have HB9:Hid (Below w6.heap.size w6 w9):=aA (HB8.out.trans (hb9.mono HB8.out.size))
     clear hb9
     go_wp2_with fail
     refine hKK _ _ ⟨⟨_,HB9.out⟩,rfl⟩ (fun x=>∃z:Calm.On w6.heap.size w6,x=z.1) (fun _ h=>h) ⟨⟨_,HB9.out⟩,rfl⟩ ?_
     clear hKK
     repeat (go_big_quiet_step (fail))
     refine wpQuiet_nil ?_
     intro KK hKK
     rw[if_pos (by rfl)]
     go_wp2_with fail
     refine(HOX.out w9 HB9.out).mono ?_;rintro _ w10 ⟨rfl,hb10⟩
     have HB10:Hid (Below w6.heap.size w6 w10):=aA (HB9.out.trans (hb10.mono HB9.out.size))
     clear hb10
     go_wp2_with fail
     refine hKK _ _ ⟨⟨_,HB10.out⟩,rfl⟩ (fun x=>∃z:Calm.On w6.heap.size w6,x=z.1) (fun _ h=>h) ⟨⟨_,HB10.out⟩,rfl⟩ ?_
     clear hKK
     repeat (go_big_quiet_step (fail))
     refine wpQuiet_nil ?_
     go_wp2
     go_ret
     exact⟨rfl,(HW6.out.on HB10.out).below⟩
end Go.Proofs.YtabmfpgpkbndeaaGreat
