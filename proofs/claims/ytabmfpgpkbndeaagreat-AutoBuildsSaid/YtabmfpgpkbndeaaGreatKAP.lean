/- Part of the proofs over this program: RfMv2, RfSame, RefRed, RefReduce. -/
import Derived.Test.YtabmfpgpkbndeaaGreatKAN
namespace Go.Proofs.YtabmfpgpkbndeaaGreat
set_option maxRecDepth 100000
set_option maxHeartbeats 40000000
open Go.RowKit
theorem ze9 (v:Value) (G:Gm.Gr) (B:Nat) (l:List Au.It) (A:Option Addr) (c BL:Nat) (sm:Int) (w:World) (hg:aT w B v G) (hf:Gm.Fit G) (hok:Gm.Ok G) (hB:B≤w.heap.size) (hl:RdQ 2 prF w BL A l) (hBL:BL≤w.heap.size) (hi:∀x∈l,Au.isI G x=true) (hs:Au.Srt l) (hlen:l.length≤1000) :
  Calls Tryz.prog 37 #[v,.slice A l.length c,.int .i64 sm] w fun e w'=>∃v',e=.returned v'∧aI 33 2 prF w' w.heap.size v' (Au.mv G l sm)∧Below w.heap.size w w':=by
 have HG:=aA hg
 have HF:=aA hf
 have HOK:=aA hok
 have HBW:=aA hB
 have HL:=aA hl
 have HBL:=aA hBL
 have HLN:=aA hlen
 have HII:=aA hi
 have HSR:=aA hs
 obtain⟨AT,cT,AN,cN,AR,cR,rfl,_⟩:=hg
 have HS0:=aA (aZ.start 26 w #[.slice AT G.ts.length cT,.slice AN G.ns.length cN,.slice AR G.rs.length cR,.int .i64 G.st])
 have hlI:(l.length:Int)≤1000:=by omega
 clear hf hok hB hl hBL hlen hi hs
 go_enter Tryz.func37,Tryz.ntmps37
 go_wp2
 go_loopw [7,8] (fun vo vi wr=>∃i:Nat,i≤l.length∧vi=.int .i64 i∧Hid (aI 33 2 prF wr (w.heap.size+1) vo (Au.mv G (l.take i) sm))∧Hid (aZ 26 w #[.slice AT G.ts.length cT,.slice AN G.ns.length cN,.slice AR G.rs.length cR,.int .i64 G.st] wr)) (fun _ vi _=>l.length-(intOf vi).toNat)
 case atStart=>exact⟨0,Nat.zero_le _,rfl,aA (aI.nil _ _),HS0⟩
 case round =>
  obtain⟨i,hi,rfl,HO,HW⟩:=hrel
  obtain⟨Ao,co,rfl,_,_,_⟩:=aI.form HO.out aG
  by_cases hlt:i<l.length
  ·obtain⟨g,o,rfl,hgB,hc⟩:=HL.out (by omega)
   have hgw:g<w.heap.size:=Nat.lt_of_lt_of_le hgB HBL.out
   have hltI:(i:Int)<(l.length:Int):=by omega
   have kk0:∀y:World,Below w.heap.size w y→y.cell? ⟨g,o+i*2,none⟩=some (.int .i64 (l[i]).1):=fun y h=>(h.cell (p:=⟨g,o+i*2,none⟩) hgw).trans (hc i hlt 0 _ rfl)
   have kk1:∀y:World,Below w.heap.size w y→y.cell? ⟨g,o+i*2+1,none⟩=some (.int .i64 (l[i]).2):=fun y h=>(h.cell (p:=⟨g,o+i*2+1,none⟩) hgw).trans (hc i hlt 1 _ rfl)
   have HTK:Hid (l.take (i+1)=l.take i++[l[i]]):=aA (List.take_succ_eq_append_getElem hlt)
   have HSN:Hid (Au.mv G (l.take i++[l[i]]) sm=if Au.nx G l[i]=some sm then Au.put (Au.mv G (l.take i) sm) ((l[i]).1,(l[i]).2+1) else Au.mv G (l.take i) sm):=aA (Au.mv_snoc (by rw[←List.take_succ_eq_append_getElem hlt];exact List.Pairwise.sublist (List.take_sublist _ _) HSR.out) sm)
   have HLX:Hid ((Au.mv G (l.take i) sm).length≤1000):=aA (by
    have h1:=Au.mv_le G (l.take i) sm
    rw[List.length_take]at h1
    omega)
   have HIX:=aA (HII.out _ (List.getElem_mem hlt))
   have HNE:=aA (fun(y:World) (h:Below w.heap.size w y)=>zbs _ G B l[i] y (HG.out.below h HBW.out) HF.out (Nat.le_trans HBW.out h.size) HIX.out)
   have HX2:Hid (0≤(l[i]).2∧(l[i]).2≤100):=aA (by
    have h1:=Au.isI_iff.1 HIX.out
    have h2:=Au.sy_le HOK.out (Au.rls_mem.2 h1.1)
    omega)
   have z0:∀z:Calm.On wr.heap.size wr,z.1.cell? ⟨w.heap.size,0,none⟩=some (.slice AT G.ts.length cT):=fun z=>(HW.out.on z.2).c 0 _ rfl
   have z1:∀z:Calm.On wr.heap.size wr,z.1.cell? ⟨w.heap.size,1,none⟩=some (.slice AN G.ns.length cN):=fun z=>(HW.out.on z.2).c 1 _ rfl
   have z2:∀z:Calm.On wr.heap.size wr,z.1.cell? ⟨w.heap.size,2,none⟩=some (.slice AR G.rs.length cR):=fun z=>(HW.out.on z.2).c 2 _ rfl
   have z3:∀z:Calm.On wr.heap.size wr,z.1.cell? ⟨w.heap.size,3,none⟩=some (.int .i64 G.st):=fun z=>(HW.out.on z.2).c 3 _ rfl
   have q0:∀z:Calm.On wr.heap.size wr,z.1.cell? ⟨g,o+i*2,none⟩=some (.int .i64 (l[i]).1):=fun z=>kk0 z.1 (HW.out.on z.2).below
   have q1:∀z:Calm.On wr.heap.size wr,z.1.cell? ⟨g,o+i*2+1,none⟩=some (.int .i64 (l[i]).2):=fun z=>kk1 z.1 (HW.out.on z.2).below
   have HS0:Hid (∃z:Calm.On wr.heap.size wr,wr.drew=z.1):=aA ⟨⟨wr.drew,aB (Below.refl _ _) 1⟩,rfl⟩
   have KK0:=aA kk0
   have KK1:=aA kk1
   clear hc kk0 kk1
   generalize l[i]=x at *
   generalize htt:Au.mv G (l.take i) sm=tt at *
   have HTT:=aA htt
   clear htt
   go_wp2_with fail
   refine CalmN.region_tree (fun x=>∃z:Calm.On wr.heap.size wr,x=z.1) (.one [0,1,2,3,4] 5 (.fin [6,7,8,9,10])) (by kernel_rfl) (by kernel_rfl) (fun _ _ d _ _ h=>by cases d <;> exact h) HS0.out ?_
   simp only[CalmN.wpT,CalmN.wpSt,CalmN.pickOps,List.getElem?_toArray,List.getElem?_cons_zero,List.getElem?_cons_succ]
   repeat (go_big_quiet_step (fail))
   refine wpQuiet_nil ?_
   intro KK hKK
   rw[if_pos (by rfl)]
   go_wp2_with fail
   refine(HNE.out wr.drew (aB HW.out.below 1)).mono ?_;rintro _ w2 ⟨rfl,hb2⟩
   have hb2:Below wr.heap.size wr w2:=(aB (Below.refl _ wr) 1).trans hb2
   have HS2:Hid (∃z:Calm.On wr.heap.size wr,w2=z.1):=aA ⟨⟨w2,hb2⟩,rfl⟩
   have HW2:=aA (HW.out.on hb2)
   have HO2:=aA (HO.out.below hb2 (Nat.le_refl _))
   clear hb2 z0 z1 z2 z3 q0 q1 HS0
   cases hq:Au.nx G x with
   | none =>
    have HE:Hid (Au.mv G (l.take (i+1)) sm=tt):=aA (by rw[HTK.out,HSN.out,if_neg (by rw[hq];simp)])
    clear hq
    go_wp2_with fail
    refine hKK _ _ HS2.out _ (fun _ h=>h) HS2.out ?_
    clear hKK
    repeat (go_big_quiet_step (fail))
    refine wpQuiet_nil ?_
    go_wp2
    go_roundw
    case rel=>exact⟨i+1,hlt,by go_num,aA (by rw[HE.out];exact HO2.out),HW2⟩
    case measure=>simp[intOf];omega
   | some s =>
    by_cases hsm:s=sm
    ·subst hsm
     have HE:Hid (Au.mv G (l.take (i+1)) s=Au.put tt (x.1,x.2+1)):=aA (by rw[HTK.out,HSN.out,if_pos hq])
     have hw1:IntKind.i64.wrap (x.2+1)=x.2+1:=IntWalk.i64_in _ (by have:=HX2.out;omega)
     have hqq:(s==s)=true:=by simp
     have HD:Hid (aZ 26 w #[.slice AT G.ts.length cT,.slice AN G.ns.length cN,.slice AR G.rs.length cR,.int .i64 G.st] w2.drew):=aA (HW2.out.drewN 1)
     have HPT:=aA (zc0 w2.drew (w.heap.size+1) _ tt (x.1,x.2+1) (HO2.out.drewN 1) HD.out.size (by have:=HLX.out;omega))
     have HOL:=aA (fun k e=>(World.ownsRow.lt (HO2.out.drewN 1) k e).1)
     have q0:∀z:Calm.OnB g w2,z.1.cell? ⟨g,o+i*2,none⟩=some (.int .i64 x.1):=fun z=>(World.cell?_of_block z.2).trans (KK0.out w2 HW2.out.below)
     have q1:∀z:Calm.OnB g w2,z.1.cell? ⟨g,o+i*2+1,none⟩=some (.int .i64 x.2):=fun z=>(World.cell?_of_block z.2).trans (KK1.out w2 HW2.out.below)
     have HSA:Hid (∃z:Calm.OnB g w2,w2.drew=z.1):=aA ⟨⟨w2.drew,rfl⟩,rfl⟩
     clear hq
     go_wp2_with fail
     refine hKK _ _ HS2.out _ (fun _ h=>h) HS2.out ?_
     clear hKK
     repeat (go_big_quiet_step (fail))
     refine wpQuiet_nil ?_
     go_wp2_with fail
     refine CalmN.region_tree (fun x=>∃z:Calm.OnB g w2,x=z.1) (.one [0,1,2,3,4,5,6,7,8,9,10,11,12] 13 (.fin [14])) (by kernel_rfl) (by kernel_rfl) (fun _ _ d _ _ h=>by cases d <;> exact h) HSA.out ?_
     simp only[CalmN.wpT,CalmN.wpSt,CalmN.pickOps,List.getElem?_toArray,List.getElem?_cons_zero,List.getElem?_cons_succ]
     repeat (go_big_quiet_step (fail))
     refine wpQuiet_nil ?_
     intro KK hKK
     rw[if_pos (by rfl)]
     go_wp2_with fail
     refine HPT.out.mono ?_;rintro _ w5 ⟨v5,rfl,ho5,hg5⟩
     have HO5:=aA ho5
     have HW5:=aA (show aZ 26 w _ w5 from Below.grown HD.out hg5 HD.out.size (fun k e=>HOL.out k e))
     have HSB:Hid (∃z:Calm.OnB g w2,w5=z.1):=aA ⟨⟨w5,hg5.block g (Nat.lt_of_lt_of_le hgw (Nat.le_trans (Nat.le_add_right _ 1) HD.out.size)) (fun e=>by have:=HOL.out g e.symm;omega)⟩,rfl⟩
     obtain⟨A5,c5,rfl,_,_,_⟩:=aI.form ho5 aG
     clear ho5 hg5 q0 q1
     go_wp2_with fail
     refine hKK _ _ HSB.out _ (fun _ h=>h) HSB.out ?_
     clear hKK
     repeat (go_big_quiet_step (fail))
     refine wpQuiet_nil ?_
     go_wp2
     go_roundw
     case rel=>exact⟨i+1,hlt,by go_num,aA (by rw[HE.out];exact HO5.out),HW5⟩
     case measure=>simp[intOf];omega
    ·have HE:Hid (Au.mv G (l.take (i+1)) sm=tt):=aA (by rw[HTK.out,HSN.out,if_neg (by rw[hq];simp;exact hsm)])
     have hqq:(s==sm)=false:=by rw[beq_eq_false_iff_ne];exact hsm
     clear hq hsm
     go_wp2_with fail
     refine hKK _ _ HS2.out _ (fun _ h=>h) HS2.out ?_
     clear hKK
     repeat (go_big_quiet_step (fail))
     refine wpQuiet_nil ?_
     go_wp2
     go_roundw
     case rel=>exact⟨i+1,hlt,by go_num,aA (by rw[HE.out];exact HO2.out),HW2⟩
     case measure=>simp[intOf];omega
  ·obtain rfl:i=l.length:=by omega
   generalize (Au.mv G (l.take l.length) sm).length=n0 at *
   rw[List.take_length]at HO
   have HX:=aA (HO.out.mono (base':=w.heap.size) (by omega))
   go_wp2
   go_ret
   exact⟨_,rfl,HX.out,HW.out.below⟩
theorem ze8 (ss:List StT) (A A':Option Addr) (c c' B:Nat) (w:World) (hs:bI w B A ss) (hs':bI w B A' ss) (hB:B≤w.heap.size) (hn:ss.length≤100000) (hl:∀x∈ss,x.1.length≤1000000∧x.2.length≤1000000) :
  Calls Tryz.prog 19 #[.slice A ss.length c,.slice A' ss.length c'] w fun e w'=>e=.returned (.bool true)∧Below w.heap.size w w':=by
 have HS:=aA hs
 have HS':=aA hs'
 have HB:=aA hB
 have HL:=aA hl
 have hnI:(ss.length:Int)≤100000:=by omega
 have hne:((ss.length:Int) != (ss.length:Int))=false:=by simp
 clear hs hs' hB hl
 go_enter Tryz.func19,Tryz.ntmps19
 go_wp2
 go_loopw [5] (fun vi wr=>∃i:Nat,i≤ss.length∧vi=.int .i64 i∧Hid (Below w.heap.size w wr)) (fun vi _=>ss.length-(intOf vi).toNat)
 case atStart=>exact⟨0,Nat.zero_le _,rfl,aA (Below.refl _ _)⟩
 case round =>
  obtain⟨i,hi,rfl,HW⟩:=hrel
  by_cases hlt:i<ss.length
  ·obtain⟨g,o,rfl,hgB,hc⟩:=HS.out (by omega)
   obtain⟨g',o',rfl,hgB',hc'⟩:=HS'.out (by omega)
   obtain⟨⟨A1,c1,a1,_,_,r1⟩,⟨A2,c2,a2,_,_,r2⟩⟩:=hc i hlt
   obtain⟨⟨A3,c3,b1,_,_,r3⟩,⟨A4,c4,b2,_,_,r4⟩⟩:=hc' i hlt
   have hltI:(i:Int)<(ss.length:Int):=by omega
   have hgw:g<w.heap.size:=Nat.lt_of_lt_of_le hgB HB.out
   have hgw':g'<w.heap.size:=Nat.lt_of_lt_of_le hgB' HB.out
   have KA1:=aA (fun(y:World) (h:Below w.heap.size w y)=>(h.cell (p:=⟨g,o+i*2,none⟩) hgw).trans a1)
   have KA2:=aA (fun(y:World) (h:Below w.heap.size w y)=>(h.cell (p:=⟨g,o+i*2+1,none⟩) hgw).trans a2)
   have KB1:=aA (fun(y:World) (h:Below w.heap.size w y)=>(h.cell (p:=⟨g',o'+i*2,none⟩) hgw').trans b1)
   have KB2:=aA (fun(y:World) (h:Below w.heap.size w y)=>(h.cell (p:=⟨g',o'+i*2+1,none⟩) hgw').trans b2)
   have HIT:=aA (fun(y:World) (h:Below w.heap.size w y)=>zaN (ss[i]).1 (ss[i]).1 A1 A3 c1 c3 B y (r1.below h HB.out) (r3.below h HB.out) (Nat.le_trans HB.out h.size) (Nat.le_trans (HL.out _ (List.getElem_mem hlt)).1 (by decide)) true (Gm.tr_iff.2 rfl))
   have HLX:=aA (HL.out _ (List.getElem_mem hlt)).2
   have HR2:=aA r2
   have HR4:=aA r4
   clear hc hc' a1 a2 b1 b2 r1 r2 r3 r4
   generalize (ss[i]).1=k at *
   generalize (ss[i]).2=es at *
   have hes:((es.length:Int) != (es.length:Int))=false:=by simp
   have qa1:∀z:Calm.On wr.heap.size wr,z.1.cell? ⟨g,o+i*2,none⟩=some (.slice A1 k.length c1):=fun z=>KA1.out z.1 (HW.out.trans (z.2.mono HW.out.size))
   have qa2:∀z:Calm.On wr.heap.size wr,z.1.cell? ⟨g,o+i*2+1,none⟩=some (.slice A2 es.length c2):=fun z=>KA2.out z.1 (HW.out.trans (z.2.mono HW.out.size))
   have qb1:∀z:Calm.On wr.heap.size wr,z.1.cell? ⟨g',o'+i*2,none⟩=some (.slice A3 k.length c3):=fun z=>KB1.out z.1 (HW.out.trans (z.2.mono HW.out.size))
   have qb2:∀z:Calm.On wr.heap.size wr,z.1.cell? ⟨g',o'+i*2+1,none⟩=some (.slice A4 es.length c4):=fun z=>KB2.out z.1 (HW.out.trans (z.2.mono HW.out.size))
   have HS0:Hid (∃z:Calm.On wr.heap.size wr,wr.drew=z.1):=aA ⟨⟨wr.drew,aB (Below.refl _ _) 1⟩,rfl⟩
   have heI:(es.length:Int)≤1000000:=by have:=HLX.out;omega
   go_wp2_with fail
   refine CalmN.region_tree (fun x=>∃z:Calm.On wr.heap.size wr,x=z.1) (.one [0,1,2,3,4,5,6,7,8,9] 10 (.fin [11,12,13,14,15,16,17,18,19,20,21,22,23,24,25,26])) (by kernel_rfl) (by kernel_rfl) (fun _ _ d _ _ h=>by cases d <;> exact h) HS0.out ?_
   simp only[CalmN.wpT,CalmN.wpSt,CalmN.pickOps,List.getElem?_toArray,List.getElem?_cons_zero,List.getElem?_cons_succ]
   repeat (go_big_quiet_step (fail))
   refine wpQuiet_nil ?_
   intro KK hKK
   rw[if_pos (by rfl)]
   go_wp2_with fail
   refine(HIT.out wr.drew (aB HW.out 1)).mono ?_;rintro _ w2 ⟨rfl,hb2⟩
   have hb2:Below wr.heap.size wr w2:=(aB (Below.refl _ wr) 1).trans hb2
   have HS2:Hid (∃z:Calm.On wr.heap.size wr,w2=z.1):=aA ⟨⟨w2,hb2⟩,rfl⟩
   have HW2:=aA (HW.out.trans (hb2.mono HW.out.size))
   clear hb2
   go_wp2_with fail
   refine hKK _ _ HS2.out _ (fun _ h=>h) HS2.out ?_
   clear hKK
   repeat (go_big_quiet_step (fail))
   refine wpQuiet_nil ?_
   clear qa1 qa2 qb1 qb2 HS0
   go_wp2
   go_loopw [6] (fun vj wy=>∃j:Nat,j≤es.length∧vj=.int .i64 j∧Hid (Below w.heap.size w wy)) (fun vj _=>es.length-(intOf vj).toNat)
   case atStart=>exact⟨0,Nat.zero_le _,rfl,HW2⟩
   case round =>
    obtain⟨j,hj,rfl,HWJ⟩:=hrel
    rename World=>wy
    have a2:=KA2.out wy HWJ.out
    by_cases hjl:j<es.length
    ·obtain⟨ge,oe,rfl,hgE,hce⟩:=HR2.out (by omega)
     obtain⟨gf,of,rfl,hgF,hcf⟩:=HR4.out (by omega)
     have hjI:(j:Int)<(es.length:Int):=by omega
     have qa2:∀z:Calm.On wy.heap.size wy,z.1.cell? ⟨g,o+i*2+1,none⟩=some (.slice (some ⟨ge,oe,none⟩) es.length c2):=fun z=>KA2.out z.1 (HWJ.out.trans (z.2.mono HWJ.out.size))
     have qb2:∀z:Calm.On wy.heap.size wy,z.1.cell? ⟨g',o'+i*2+1,none⟩=some (.slice (some ⟨gf,of,none⟩) es.length c4):=fun z=>KB2.out z.1 (HWJ.out.trans (z.2.mono HWJ.out.size))
     have k0:∀z:Calm.On wy.heap.size wy,z.1.cell? ⟨ge,oe+j*2,none⟩=some (.int .i64 (es[j]).1):=fun z=>((HWJ.out.trans (z.2.mono HWJ.out.size)).cell (p:=⟨ge,oe+j*2,none⟩) (Nat.lt_of_lt_of_le hgE HB.out)).trans (hce j hjl 0 _ rfl)
     have k1:∀z:Calm.On wy.heap.size wy,z.1.cell? ⟨ge,oe+j*2+1,none⟩=some (.int .i64 (es[j]).2):=fun z=>((HWJ.out.trans (z.2.mono HWJ.out.size)).cell (p:=⟨ge,oe+j*2+1,none⟩) (Nat.lt_of_lt_of_le hgE HB.out)).trans (hce j hjl 1 _ rfl)
     have l0:∀z:Calm.On wy.heap.size wy,z.1.cell? ⟨gf,of+j*2,none⟩=some (.int .i64 (es[j]).1):=fun z=>((HWJ.out.trans (z.2.mono HWJ.out.size)).cell (p:=⟨gf,of+j*2,none⟩) (Nat.lt_of_lt_of_le hgF HB.out)).trans (hcf j hjl 0 _ rfl)
     have l1:∀z:Calm.On wy.heap.size wy,z.1.cell? ⟨gf,of+j*2+1,none⟩=some (.int .i64 (es[j]).2):=fun z=>((HWJ.out.trans (z.2.mono HWJ.out.size)).cell (p:=⟨gf,of+j*2+1,none⟩) (Nat.lt_of_lt_of_le hgF HB.out)).trans (hcf j hjl 1 _ rfl)
     have HS1:Hid (∃z:Calm.On wy.heap.size wy,wy.drew=z.1):=aA ⟨⟨wy.drew,aB (Below.refl _ _) 1⟩,rfl⟩
     have HWD:Hid (Below w.heap.size w wy.drew):=aA (aB HWJ.out 1)
     clear hce hcf
     generalize es[j]=y at *
     have hq1:(y.1==y.1)=true:=by simp
     have hq2:(y.2==y.2)=true:=by simp
     go_wp2_with fail
     refine CalmN.region_tree (fun x=>∃z:Calm.On wy.heap.size wy,x=z.1) (.fin [0,1,2,3,4,5,6,7,8,9,10,11,12,13,14,15,16]) (by kernel_rfl) (by kernel_rfl) (fun _ _ d _ _ h=>by cases d <;> exact h) HS1.out ?_
     simp only[CalmN.wpT,CalmN.pickOps,List.getElem?_toArray,List.getElem?_cons_zero,List.getElem?_cons_succ]
     repeat (go_big_quiet_step (fail))
     refine wpQuiet_nil ?_
     clear k0 k1 l0 l1 qa2 qb2 a2
     go_wp2
     go_roundw
     case rel=>exact⟨j+1,hjl,by go_num,HWD⟩
     case measure=>simp[intOf];omega
    ·obtain rfl:j=es.length:=by omega
     go_wp2
     go_roundw
     case rel=>exact⟨i+1,hlt,by go_num,HWJ⟩
     case measure=>simp[intOf];omega
  ·obtain rfl:i=ss.length:=by omega
   go_wp2
   go_ret
   exact⟨rfl,HW.out⟩
noncomputable def Gm.oR (G:Gm.Gr) (i:Nat):List Int:=Gm.ord [] (((G.rs.take i).filter (Gm.use G)).map Gm.Rl.l)
theorem Gm.oR_next {G:Gm.Gr} {i:Nat} (h:i<G.rs.length):Gm.oR G (i+1)=if Gm.use G G.rs[i]=true then(if(G.rs[i]).l∈Gm.oR G i then Gm.oR G i else Gm.oR G i++[(G.rs[i]).l]) else Gm.oR G i:=by
 unfold Gm.oR
 rw[List.take_succ_eq_append_getElem h,List.filter_append,List.map_append]
 cases hu:Gm.use G G.rs[i]
 ·simp[hu]
 ·rw[show [G.rs[i]].filter (Gm.use G)=[G.rs[i]] by simp[hu],List.map_singleton,Gm.ord_snoc,if_pos rfl]
theorem Gm.oR_all (G:Gm.Gr):Gm.oR G G.rs.length=Gm.olds G:=by unfold Gm.oR Gm.olds Gm.krs;rw[List.take_length]
theorem Gm.oR_mem {G:Gm.Gr} (h:Gm.Ok G) {i:Nat} {j:Int} (hj:j∈Gm.oR G i):0≤j∧j<G.ns.length:=by
 unfold Gm.oR at hj
 rw[Gm.ord_mem]at hj
 rcases hj with hj|hj
 ·simp at hj
 ·obtain⟨x,hx,rfl⟩:=List.mem_map.1 hj
  exact h.lin x (List.mem_of_mem_take (List.mem_filter.1 hx).1)
theorem Gm.oR_len {G:Gm.Gr} (h:Gm.Ok G) (i:Nat):(Gm.oR G i).length≤G.ns.length:=by
 have h1:=Gm.pigeons G.ns.length ((Gm.oR G i).map (· + 1)) ?_ ?_
 ·simpa using h1.1
 ·refine List.nodup_iff_pairwise_ne.2 ?_
  rw[List.pairwise_map]
  have:(Gm.oR G i).Nodup:=Gm.ord_nodup _ _ (by simp)
  exact(List.nodup_iff_pairwise_ne.1 this).imp fun h e=>h (by omega)
 ·intro x hx
  obtain⟨y,hy,rfl⟩:=List.mem_map.1 hx
  have:=Gm.oR_mem h hy
  omega
theorem Gm.pos_neg {o:List Int} {l:Int}:Gm.pos o l<0↔l ∉ o:=by
 constructor
 ·intro h hm
  have:=Gm.pos_lt hm
  omega
 ·intro h;rw[Gm.pos_no h];omega
theorem Gm.toL_in {G:Gm.Gr} (h:Gm.Ok G) (o:List Int) (ho:o.length≤G.ns.length) (n i:Nat) (hi:i<n):-1≤(Gm.toL n o).getD i 0∧(Gm.toL n o).getD i 0≤1000:=by
 rw[Gm.toL_at hi]
 have h3:=(Gm.nons_iff G).1 h.n
 by_cases hm:(i:Int)∈o
 ·have h1:=Gm.pos_lt hm
  omega
 ·rw[Gm.pos_no hm];omega
theorem Gm.fill_to {n k:Nat} (h:k<n):(List.replicate k (-1:Int)++List.replicate (n-k) 0).set k (-1)=List.replicate (k+1) (-1)++List.replicate (n-(k+1)) 0:=by
 rw[List.set_append_right _ _ (by simp)]
 rw[List.length_replicate,Nat.sub_self,show n-k=(n-(k+1))+1 by omega,List.replicate_succ,List.set_cons_zero,List.replicate_succ']
 simp
section
variable {w1 wr w':World} {H gA base:Nat} {cs:Array Value} {vT vN vR vK:Value} {ts:List Gm.Tm} {ns:List (List Int)} {rs:List Gm.Rl} {an ks:List Int}
theorem RdS.other (h:RdS w1 wr H gA cs vT vN (.slice none 0 0) ts ns [] an) (ho:aS wr base vK ks) (hb:gA<base) (hg:wr.grownBy w' vK.ownBlock):RdS w1 w' H gA cs vT vN (.slice none 0 0) ts ns [] an:=by
 have hA:=h.hA
 refine⟨zaa h.h ho (by decide) hg,World.ownsRow.kept h.t hg (zag h.t ho (by decide)),World.ownsRow.kept h.nn hg (zag h.nn ho (by decide)),bA.nil _ _ _,h.a.grown hg (fun e=>?_),h.w.grown hg h.w.size (fun k e=>?_),h.hH,h.hA⟩
 ·have:=(World.ownsRow.lt ho gA e.symm).1
  omega
 ·have:=(World.ownsRow.lt ho k e).1
  omega
end
end Go.Proofs.YtabmfpgpkbndeaaGreat
namespace Go.Proofs.YtabmfpgpkbndeaaGreat
set_option maxRecDepth 100000
set_option maxHeartbeats 40000000
open Go.RowKit
theorem zdY (v:Value) (G:Gm.Gr) (B:Nat) (w:World) (hg:aT w B v G) (hf:Gm.Fit G) (hB:B≤w.heap.size) :
  Calls Tryz.prog 41 #[v] w (zaK G w):=by
 have H1:=aA (fun(x:World) (h:Below w.heap.size w x)=>za6 v G B x (hg.below h hB) hf (Nat.le_trans hB h.size))
 have H2:=aA (fun(x:World) (h:Below w.heap.size w x)=>za3 v G B x (hg.below h hB) hf (Nat.le_trans hB h.size))
 have H3:=aA (fun(x:World) (h:Below w.heap.size w x)=>zcn v G B x (hg.below h hB) hf (Nat.le_trans hB h.size))
 have hbg:=fun w=>zcM w
 obtain⟨AT,cT,AN,cN,AR,cR,rfl,_,⟨hlN,hmN⟩,_,hT,hN,hR⟩:=hg
 have HRl:=aA (fun(y:World) (h:Below w.heap.size w y)=>hR.keep fun g o hg=>h.cell (p:=⟨g,o,none⟩) (Nat.lt_of_lt_of_le hg hB))
 have HNm:=aA (fun(y:World) (h:Below w.heap.size w y)=>hN.keep fun g o hg=>h.cell (p:=⟨g,o,none⟩) (Nat.lt_of_lt_of_le hg hB))
 have HTt:=aA (fun(y:World) (h:Below w.heap.size w y)=>hT.keep fun g o hg=>h.cell (p:=⟨g,o,none⟩) (Nat.lt_of_lt_of_le hg hB))
 have HB:=aA hB
 have HFT:=aA hf
 obtain⟨w1,hw1⟩:∃y,y=(w.alloc (.cells #[.slice AT G.ts.length cT,.slice AN G.ns.length cN,.slice AR G.rs.length cR,.int .i64 G.st] 26)).alloc (.cells #[.slice none 0 0,.slice none 0 0,.slice none 0 0,.int .i64 0] 26):=⟨_,rfl⟩
 have hs1:w1.heap.size=w.heap.size+2:=by rw[hw1];simp
 have HB1:Hid (Below w.heap.size w w1):=aA (by rw[hw1];exact((Below.refl _ w).alloc (Nat.le_refl _) _).alloc (by simp) _)
 have HX0:Hid (w1.heap[w.heap.size]?=some (.cells #[.slice AT G.ts.length cT,.slice AN G.ns.length cN,.slice AR G.rs.length cR,.int .i64 G.st] 26 (0,0))):=aA (by rw[hw1,Below.heap_alloc _ _ _ (by simp)];exact heap_alloc_new w _)
 have HX1:Hid (w1.heap[w.heap.size+1]?=some (.cells #[.slice none 0 0,.slice none 0 0,.slice none 0 0,.int .i64 0] 26 (0,0))):=aA (by rw[hw1];have:=heap_alloc_new (w.alloc (.cells #[.slice AT G.ts.length cT,.slice AN G.ns.length cN,.slice AR G.rs.length cR,.int .i64 G.st] 26)) (.cells #[.slice none 0 0,.slice none 0 0,.slice none 0 0,.int .i64 0] 26);simpa using this)
 have HS1:=aA hs1
 have HQ:=aA (fun(y:World) (h:Below w1.heap.size w1 y)=>(h.block w.heap.size (by omega)).trans HX0.out)
 have HZ:=aA (fun(y:World) (h:Below w1.heap.size w1 y)=>(h.block (w.heap.size+1) (by omega)).trans HX1.out)
 have HBX:=aA (fun(y:World) (h:Below w1.heap.size w1 y)=>HB1.out.trans (h.mono (by omega)))
 have c0:w1.cell? ⟨w.heap.size,0,none⟩=some (.slice AT G.ts.length cT):=by rw[cell_of_row w1 _ 0 _ _ _ HX0.out];rfl
 have c1:w1.cell? ⟨w.heap.size,1,none⟩=some (.slice AN G.ns.length cN):=by rw[cell_of_row w1 _ 1 _ _ _ HX0.out];rfl
 have c2:w1.cell? ⟨w.heap.size,2,none⟩=some (.slice AR G.rs.length cR):=by rw[cell_of_row w1 _ 2 _ _ _ HX0.out];rfl
 have c3:w1.cell? ⟨w.heap.size,3,none⟩=some (.int .i64 G.st):=by rw[cell_of_row w1 _ 3 _ _ _ HX0.out];rfl
 have hd0:w.heap.size<w1.heap.size:=by omega
 clear hf hs1 hT hN hR hB
 cases q:Gm.right G
 ·rw[q]at H1
  have HE:=aA (Gm.rdE_no q)
  clear q H2 H3
  go_enter Tryz.func41,Tryz.ntmps41
  go_upto_region 1 with fail
  rw[←hw1]
  clear hw1
  go_wp2_with fail
  refine(H1.out _ HB1.out).mono ?_;rintro _ w2 ⟨rfl,hb2⟩
  have g0:w2.cell? ⟨w.heap.size+1,0,none⟩=some (.slice none 0 0):=by rw[cell_of_row w2 _ 0 _ _ _ (HZ.out w2 hb2)];rfl
  have g1:w2.cell? ⟨w.heap.size+1,1,none⟩=some (.slice none 0 0):=by rw[cell_of_row w2 _ 1 _ _ _ (HZ.out w2 hb2)];rfl
  have g2:w2.cell? ⟨w.heap.size+1,2,none⟩=some (.slice none 0 0):=by rw[cell_of_row w2 _ 2 _ _ _ (HZ.out w2 hb2)];rfl
  have g3:w2.cell? ⟨w.heap.size+1,3,none⟩=some (.int .i64 0):=by rw[cell_of_row w2 _ 3 _ _ _ (HZ.out w2 hb2)];rfl
  have e0:=frozen_of_row w2 _ 0 _ _ (HZ.out w2 hb2)
  have e1:=frozen_of_row w2 _ 1 _ _ (HZ.out w2 hb2)
  have e2:=frozen_of_row w2 _ 2 _ _ (HZ.out w2 hb2)
  have e3:=frozen_of_row w2 _ 3 _ _ (HZ.out w2 hb2)
  have lz:=(Array.getElem?_eq_some_iff.1 (HZ.out w2 hb2)).1
  have HBF:=aA (fun u1 u2 u3 u4=>((((HBX.out w2 hb2).setCell (p:=⟨w.heap.size+1,0,none⟩) (by simp only;omega) u1).setCell (p:=⟨w.heap.size+1,1,none⟩) (by simp only;omega) u2).setCell (p:=⟨w.heap.size+1,2,none⟩) (by simp only;omega) u3).setCell (p:=⟨w.heap.size+1,3,none⟩) (by simp only;omega) u4)
  clear c0 c1 c2 c3 hb2 H1
  go_wp2
  refine bodyPost_ret (v:=.tuple #[.agg #[.slice none 0 0,.slice none 0 0,.slice none 0 0,.int .i64 0],.slice none 0 0,.int .i64 1]) (by simp[results,Tryz.results41,go_sem,g0,g1,g2,g3]) rfl ?_
  exact zaK.no HE.out (by decide) (HBF.out _ _ _ _)
 ·have HQ1:=aA q
  have HOK:=aA (Gm.right_ok.1 q)
  have H2:=aA (fun x h=>(show Calls _ _ _ _ (zhE _ _) from(H2.out x h).mono fun e w' k=>k.1 q))
  have H3:=aA (fun x h=>(show Calls _ _ _ _ (zhE _ _) from(H3.out x h).mono fun e w' k=>k.1 q))
  rw[q]at H1
  clear q
  have HUSE:=aA (fun x hx=>Gm.use_rcB HOK.out (x:=x) hx)
  have HN40:Hid (G.ns.length≤40):=aA (by have:=(Gm.nons_iff G).1 HOK.out.n;omega)
  have HT24:Hid (G.ts.length≤24):=aA (by have:=HOK.out.t;unfold Gm.terms at this;rw[Bool.and_eq_true]at this;exact of_decide_eq_true this.1)
  have HR40:Hid (G.rs.length≤40):=aA HOK.out.r40
  obtain⟨T,hT⟩:∃x,x=Gm.gn true G.rs G.ns.length:=⟨_,rfl⟩
  have HTl:Hid (T.length=G.ns.length):=aA (by rw[hT,Gm.gn_len])
  rw[←hT]at H2 HUSE
  obtain⟨R,hRr⟩:∃x,x=Gm.rc G:=⟨_,rfl⟩
  have HRL:Hid (R.length=G.ns.length):=aA (by rw[hRr,Gm.rc_len])
  rw[←hRr]at H3 HUSE
  have hst:=HOK.out.s0
  have hst1:=HOK.out.s1
  obtain⟨m,hm⟩:∃m:Nat,G.st=(m:Int):=⟨G.st.toNat,by omega⟩
  obtain⟨tb,htb⟩:∃b,b=T.getD m false:=⟨_,rfl⟩
  have HTM:Hid (tb=Gm.tr (Gm.Gn true G.rs G.st)):=aA (by rw[htb,hT,Gm.gn_at _ _ _ _ (by omega),hm])
  have HTB:=aA htb
  have HM:=aA hm
  have hmn:m<G.ns.length:=by omega
  have hmi:(m:Int)<(G.ns.length:Int):=by omega
  have hnn:=HN40.out
  have hlenn:(G.ns.length:Int)≤9223372036854775807:=by omega
  have hlenr:(G.rs.length:Int)≤9223372036854775807:=by have:=HR40.out;omega
  clear hT hst hst1 hm htb hRr
  go_enter Tryz.func41,Tryz.ntmps41
  go_upto_region 1 with fail
  rw[←hw1]
  clear hw1
  go_upto_region 3 with fail
  refine(H1.out _ HB1.out).mono ?_;rintro _ w2 ⟨rfl,hb2⟩
  have HB2:=aA hb2
  clear hb2 c0 c1 c2 c3 H1
  go_upto_region 3 with fail
  go_cut [5,6] (fun v5 v6 wx=>∃gp gr,v5=.slice (some ⟨gp,0,none⟩) G.ns.length G.ns.length∧v6=.slice (some ⟨gr,0,none⟩) G.ns.length G.ns.length∧UBO wx gp T∧UBO wx gr R∧Below w1.heap.size w1 wx)
  case first =>
   have q0:=fun y:Calm.On w2.heap.size w2=>(show y.1.cell? ⟨w.heap.size,0,none⟩=some (.slice AT G.ts.length cT) by rw[cell_of_row y.1 _ 0 _ _ _ (HQ.out y.1 (HB2.out.trans (y.2.mono HB2.out.size)))];rfl)
   have q1:=fun y:Calm.On w2.heap.size w2=>(show y.1.cell? ⟨w.heap.size,1,none⟩=some (.slice AN G.ns.length cN) by rw[cell_of_row y.1 _ 1 _ _ _ (HQ.out y.1 (HB2.out.trans (y.2.mono HB2.out.size)))];rfl)
   have q2:=fun y:Calm.On w2.heap.size w2=>(show y.1.cell? ⟨w.heap.size,2,none⟩=some (.slice AR G.rs.length cR) by rw[cell_of_row y.1 _ 2 _ _ _ (HQ.out y.1 (HB2.out.trans (y.2.mono HB2.out.size)))];rfl)
   have q3:=fun y:Calm.On w2.heap.size w2=>(show y.1.cell? ⟨w.heap.size,3,none⟩=some (.int .i64 G.st) by rw[cell_of_row y.1 _ 3 _ _ _ (HQ.out y.1 (HB2.out.trans (y.2.mono HB2.out.size)))];rfl)
   have HD2:Hid (Below w2.heap.size w2 w2.drew):=aA (aB (Below.refl _ _) 1)
   refine CalmN.region_tree (fun x=>∃y:Calm.On w2.heap.size w2,x=y.1) (.one [0,2] 1 (.one [] 3 (.fin [4,5]))) (by kernel_rfl) (by kernel_rfl) (fun _ _ d _ _ h=>by cases d <;> exact h) ⟨⟨w2.drew,HD2.out⟩,rfl⟩ ?_
   simp only[CalmN.wpT,CalmN.wpSt,CalmN.pickOps,List.getElem?_toArray,List.getElem?_cons_zero,List.getElem?_cons_succ]
   repeat (go_big_quiet_step (fail))
   refine wpQuiet_nil ?_
   clear q0 q1 q2 q3
   obtain⟨wd,hwd⟩:∃y,y=w2.drew:=⟨_,rfl⟩
   rw[←hwd]at HD2 ⊢
   clear hwd
   intro KK hKK
   rw[if_pos (by rfl)]
   go_wp2_with fail
   refine(H2.out wd (HBX.out _ (HB2.out.trans (HD2.out.mono HB2.out.size)))).mono ?_;rintro _ w3 ⟨ga,rfl,hga,hua,hb3⟩
   rw[HTl.out]
   have hb3':Below w2.heap.size w2 w3:=HD2.out.trans (hb3.mono HD2.out.size)
   have HW3:=aA (HB2.out.trans (hb3'.mono HB2.out.size))
   go_wp2_with fail
   refine hKK _ _ ⟨⟨w3,hb3'⟩,rfl⟩ (fun x=>∃y:Calm.On w2.heap.size w2,x=y.1) (fun _ h=>h) ⟨⟨w3,hb3'⟩,rfl⟩ ?_
   refine wpQuiet_nil ?_
   intro KK hKK
   rw[if_pos (by rfl)]
   go_wp2_with fail
   refine(H3.out w3 (HBX.out _ HW3.out)).mono ?_;rintro _ w4 ⟨gb,rfl,hgb,hub,hb4⟩
   rw[HRL.out]
   have hb4':Below w2.heap.size w2 w4:=hb3'.trans (hb4.mono hb3'.size)
   go_wp2_with fail
   refine hKK _ _ ⟨⟨w4,hb4'⟩,rfl⟩ (fun x=>∃y:Calm.On w2.heap.size w2,x=y.1) (fun _ h=>h) ⟨⟨w4,hb4'⟩,rfl⟩ ?_
   repeat (go_big_quiet_step (fail))
   refine wpQuiet_nil ?_
   go_wp2_with fail
   go_meet
   case rel=>exact⟨ga,gb,rfl,rfl,hua.below hb4 hua.lt,hub,HW3.out.trans (hb4.mono HW3.out.size)⟩
  case rest =>
   obtain⟨gp,gr,rfl,rfl,hup,hur,hbc⟩:=hcut
   have HUP:=aA hup
   have HUR:=aA hur
   have HBC:=aA hbc
   have q3:wc.cell? ⟨w.heap.size,3,none⟩=some (.int .i64 m):=by rw[cell_of_row wc _ 3 _ _ _ (HQ.out wc hbc),←HM.out];rfl
   have km:=hup.cell m (by rw[HTl.out];exact hmn)
   rw[←HTB.out]at km
   have lq:=block_lt_of_cell q3
   have lp:=hup.lt
   clear hup hur hbc H2 H3 HB2
   cases hp:Gm.tr (Gm.Gn true G.rs G.st)
   ·have HE:=aA (Gm.rdE_empty HQ1.out hp)
    obtain rfl:tb=false:=HTM.out.trans hp
    have g0:wc.cell? ⟨w.heap.size+1,0,none⟩=some (.slice none 0 0):=by rw[cell_of_row wc _ 0 _ _ _ (HZ.out wc HBC.out)];rfl
    have g1:wc.cell? ⟨w.heap.size+1,1,none⟩=some (.slice none 0 0):=by rw[cell_of_row wc _ 1 _ _ _ (HZ.out wc HBC.out)];rfl
    have g2:wc.cell? ⟨w.heap.size+1,2,none⟩=some (.slice none 0 0):=by rw[cell_of_row wc _ 2 _ _ _ (HZ.out wc HBC.out)];rfl
    have g3:wc.cell? ⟨w.heap.size+1,3,none⟩=some (.int .i64 0):=by rw[cell_of_row wc _ 3 _ _ _ (HZ.out wc HBC.out)];rfl
    have e0:=frozen_of_row wc _ 0 _ _ (HZ.out wc HBC.out)
    have e1:=frozen_of_row wc _ 1 _ _ (HZ.out wc HBC.out)
    have e2:=frozen_of_row wc _ 2 _ _ (HZ.out wc HBC.out)
    have e3:=frozen_of_row wc _ 3 _ _ (HZ.out wc HBC.out)
    have lz:=(Array.getElem?_eq_some_iff.1 (HZ.out wc HBC.out)).1
    have HBF:=aA (fun u1 u2 u3 u4=>((((HBX.out wc HBC.out).setCell (p:=⟨w.heap.size+1,0,none⟩) (by simp only;omega) u1).setCell (p:=⟨w.heap.size+1,1,none⟩) (by simp only;omega) u2).setCell (p:=⟨w.heap.size+1,2,none⟩) (by simp only;omega) u3).setCell (p:=⟨w.heap.size+1,3,none⟩) (by simp only;omega) u4)
    clear hp HTM HTB
    go_wp2
    refine bodyPost_ret (v:=.tuple #[.agg #[.slice none 0 0,.slice none 0 0,.slice none 0 0,.int .i64 0],.slice none 0 0,.int .i64 9]) (by simp[results,Tryz.results41,go_sem,g0,g1,g2,g3]) rfl ?_
    exact zaK.no HE.out (by decide) (HBF.out _ _ _ _)
   ·have HE:=aA (Gm.rdE_ok HQ1.out hp)
    have HPS:=aA (Gm.tr_iff.1 hp)
    obtain rfl:tb=true:=HTM.out.trans hp
    clear hp HTM HTB
    have HQC:=aA (fun(y:World) (h:Below wc.heap.size wc y)=>HQ.out y (HBC.out.trans (h.mono HBC.out.size)))
    have HBW:=aA (fun(y:World) (h:Below wc.heap.size wc y)=>HBX.out y (HBC.out.trans (h.mono HBC.out.size)))
    have c0:wc.cell? ⟨w.heap.size,0,none⟩=some (.slice AT G.ts.length cT):=by rw[cell_of_row wc _ 0 _ _ _ (HQ.out wc HBC.out)];rfl
    go_upto_region 7 with(at_builtin;refine zeG rfl (.tmp 33) (.tmp 35) _ rfl Tryz.underlying22 wc.heap.size _ [] rfl (zaU wc) B G.ts.length cT AT G.ts rfl rfl (HTt.out _ ((HBX.out _ HBC.out).alloc (HBX.out _ HBC.out).size _)) (by have:=HT24.out;simp;omega) (by simp) ?_;intro v2 w5 ho5 hg5;have HO5:=aA ho5;have HB5:=aA (((Below.refl wc.heap.size wc).alloc (Nat.le_refl _) (.cells #[] 104)).grown hg5 (by simp) (fun k e=>(aH (zaU wc) e).1));obtain⟨A2,c2,rfl,_,_⟩:=aM ho5;clear ho5 hg5)
    obtain⟨w6,hw6⟩:∃y,y=w5.alloc (.cells #[.slice A2 G.ts.length c2,.slice none 0 0,.slice none 0 0,.int .i64 0] 26):=⟨_,rfl⟩
    have HB6:Hid (Below wc.heap.size wc w6):=aA (by rw[hw6];exact HB5.out.alloc HB5.out.size _)
    have HO6:Hid (aX w6 wc.heap.size (.slice A2 G.ts.length c2) G.ts):=aA (by rw[hw6];exact World.ownsRow.alloc HO5.out _)
    have HH6:Hid (w6.heap[w5.heap.size]?=some (.cells #[.slice A2 G.ts.length c2,.slice none 0 0,.slice none 0 0,.int .i64 0] 26 (0,0))):=aA (by rw[hw6];exact heap_alloc_new w5 _)
    rw[←hw6]
    clear hw6 HO5 c0 q3 km lq
    have c1:w6.cell? ⟨w.heap.size,1,none⟩=some (.slice AN G.ns.length cN):=by rw[cell_of_row w6 _ 1 _ _ _ (HQC.out w6 HB6.out)];rfl
    have l6:=block_lt_of_cell c1
    go_upto_region 8 with(at_make;refine zd4 rfl (.tmp 40) (.tmp 40) _ rfl Tryz.underlying43 G.ns.length _ _ rfl rfl rfl rfl (by omega) ?_;intro w7 hu7 hb7 hlt7)
    have HS7:Hid (RdS wc w7 w5.heap.size w6.heap.size #[.slice A2 G.ts.length c2,.slice none 0 0,.slice none 0 0,.int .i64 0] (.slice A2 G.ts.length c2) (.slice none 0 0) (.slice none 0 0) G.ts [] [] (List.replicate G.ns.length 0)):=aA
     ⟨aE hb7 HH6.out,World.ownsRow.kept HO6.out (aL hb7 .none) (zat _),bG.nil _ _,bA.nil _ _ _,hu7,HB6.out.trans (hb7.mono HB6.out.size),HB5.out.size,HB6.out.size⟩
    obtain⟨vT,hvT⟩:∃v,v=Value.slice A2 G.ts.length c2:=⟨_,rfl⟩
    obtain⟨H,hH⟩:∃x,x=w5.heap.size:=⟨_,rfl⟩
    obtain⟨gA,hgA⟩:∃x,x=w6.heap.size:=⟨_,rfl⟩
    rw[←hvT,←hH,←hgA]at HS7
    rw[←hvT,←hH,←hgA]
    clear hvT hH hgA hu7 hb7 c1 l6 hlt7 HO6 HH6 HB6 HB5
    go_wp2
    go_loopw [9] (fun vk wr=>∃(k:Nat),k≤G.ns.length∧vk=.int .i64 k∧Hid (RdS wc wr H gA #[vT,.slice none 0 0,.slice none 0 0,.int .i64 0] vT (.slice none 0 0) (.slice none 0 0) G.ts [] [] (List.replicate k (-1)++List.replicate (G.ns.length-k) 0))) (fun vk _=>G.ns.length-(intOf vk).toNat)
    case atStart=>exact⟨0,Nat.zero_le _,rfl,by simpa using HS7⟩
    case round =>
     clear HS7
     obtain⟨k,hk,rfl,HS⟩:=hrel
     by_cases hlt:k<G.ns.length
     ·have ka:=HS.out.a.cell k (by simp;omega)
      have fa:=HS.out.a.frozen k
      have la:=HS.out.a.lt
      have HS2:=aA (HS.out.setA k (-1))
      rw[Gm.fill_to hlt]at HS2
      go_wp2
      go_roundw
      case rel=>exact⟨k+1,hlt,by go_num,HS2⟩
      case measure=>simp[intOf];omega
     ·obtain rfl:k=G.ns.length:=by omega
      rw[Nat.sub_self,List.replicate_zero,List.append_nil,←Gm.toL_nil]at HS
      go_wp2
      go_loopw [10,11] (fun v10 v11 wr=>∃(i:Nat) (vN:Value),i≤G.rs.length∧v11=.int .i64 i∧Hid (RdS wc wr H gA #[vT,vN,.slice none 0 0,.int .i64 0] vT vN (.slice none 0 0) G.ts (Gm.nmL G (Gm.oR G i)) [] (Gm.toL G.ns.length (Gm.oR G i)))∧Hid (aS wr (gA+1) v10 (Gm.kl G i))) (fun _ v11 _=>G.rs.length-(intOf v11).toNat)
      case atStart=>exact⟨0,_,Nat.zero_le _,rfl,HS,aA (aS.nil _ _)⟩
      case round =>
       clear HS hlt
       obtain⟨i,vN,hi,rfl,HS,HK⟩:=hrel
       by_cases hlt:i<G.rs.length
       ·obtain⟨g,o,rfl,hgB,hc⟩:=HRl.out w1 HB1.out (by omega)
        obtain⟨k0,⟨A',c',k1,_,_,hri⟩,k2⟩:=hc i hlt
        have hgw:g<w1.heap.size:=by have:=HB.out;have:=HS1.out;omega
        have HW1:=aA (fun(y:World) (h:Below wc.heap.size wc y)=>HBC.out.trans (h.mono HBC.out.size))
        have k0:=((HW1.out wr HS.out.w).cell (p:=⟨g,o+i*3,none⟩) hgw).trans k0
        have k1:=((HW1.out wr HS.out.w).cell (p:=⟨g,o+i*3+1,none⟩) hgw).trans k1
        have k2:=((HW1.out wr HS.out.w).cell (p:=⟨g,o+i*3+2,none⟩) hgw).trans k2
        have hxm:G.rs[i]∈G.rs:=List.getElem_mem hlt
        have e:=HFT.out.r _ hxm
        have hxl:=HOK.out.lin _ hxm
        have hr6:=(Gm.rule_in (HOK.out.rr _ hxm)).1
        have HNX:=aA (Gm.kl_next hlt)
        have HON:=aA (Gm.oR_next hlt)
        have HUS:=aA (HUSE.out _ hxm)
        have HOL:=aA (Gm.oR_len HOK.out i)
        have HKL:=aA (Nat.le_trans (Gm.kl_len G i) hi)
        have HAL:=aA (fun(y:World) (h:Below wc.heap.size wc y)=>zcZ G.rs[i].r T true A' (some ⟨gp,0,none⟩) c' G.ns.length B wc.heap.size y (hri.keep fun g o hg=>(HW1.out y h).cell (p:=⟨g,o,none⟩) (by have:=HB.out;have:=HS1.out;simp only;omega)) e.2.2 (fun z hz h0=>by rw[HTl.out];exact HOK.out.sin _ hxm z hz h0) ((HUP.out.rd0 HUP.out.lt).below h (Nat.le_refl _)) (by omega))
        rw[HTl.out]at HAL
        generalize G.rs[i]=x at *
        obtain⟨l,r,pz⟩:=x
        simp only at k0 k1 k2 HAL hxl hr6 HON
        obtain⟨ml,rfl⟩:∃m:Nat,l=(m:Int):=⟨l.toNat,by omega⟩
        have hmli:=hxl.2
        have hmln:ml<G.ns.length:=by omega
        have HE0:Hid (Gm.rcB T R ⟨ml,r,pz⟩=(R.getD ml false&&Gm.allB true T r)):=aA (by simp[Gm.rcB])
        have HUE:=aA (HUS.out.symm.trans HE0.out)
        generalize Gm.use G ⟨(ml:Int),r,pz⟩=ub at *
        have q2:wr.cell? ⟨w.heap.size,2,none⟩=some (.slice (some ⟨g,o,none⟩) G.rs.length cR):=by rw[cell_of_row wr _ 2 _ _ _ (HQC.out wr HS.out.w)];rfl
        have lq:=block_lt_of_cell q2
        have lg:=block_lt_of_cell k0
        have kr:=(HS.out.w.cell (p:=⟨gr,ml,none⟩) HUR.out.lt).trans (HUR.out.cell ml (by rw[HRL.out];exact hmln))
        have lr:=block_lt_of_cell kr
        have HS1':=aA (HS.out.alloc (.cells #[.int .i64 ml,.slice A' r.length c',.int .i64 pz] 60))
        have HK1:=aA (HK.out.alloc (.cells #[.int .i64 ml,.slice A' r.length c',.int .i64 pz] 60))
        have HD1:=aA (heap_alloc_new wr (.cells #[.int .i64 ml,.slice A' r.length c',.int .i64 pz] 60))
        clear hc hri e hxm hxl HUS HE0
        generalize R.getD ml false=rb at *
        cases rb
        ·obtain rfl:ub=false:=HUE.out
         have HX:Hid (Gm.kl G (i+1)=Gm.kl G i):=aA (HNX.out.trans (if_neg (by simp)))
         have HX2:Hid (Gm.oR G (i+1)=Gm.oR G i):=aA (HON.out.trans (if_neg (by simp)))
         clear HNX HON HUE
         go_wp2
         go_roundw
         case rel=>exact⟨i+1,vN,hlt,by go_num,by rw[HX2.out];exact HS1',by rw[HX.out];exact HK1⟩
         case measure=>simp[intOf];omega
        ·have HAW:=aA (HAL.out _ HS1'.out.w)
         generalize Gm.allB true T r=ab at *
         cases ab
         ·obtain rfl:ub=false:=HUE.out
          have HX:Hid (Gm.kl G (i+1)=Gm.kl G i):=aA (HNX.out.trans (if_neg (by simp)))
          have HX2:Hid (Gm.oR G (i+1)=Gm.oR G i):=aA (HON.out.trans (if_neg (by simp)))
          clear HNX HON HUE HAL
          go_wp2_with fail
          refine HAW.out.mono ?_;rintro _ w8 ⟨rfl,hw8⟩
          subst hw8
          go_wp2
          go_roundw
          case rel=>exact⟨i+1,vN,hlt,by go_num,by rw[HX2.out];exact HS1',by rw[HX.out];exact HK1⟩
          case measure=>simp[intOf];omega
         ·obtain rfl:ub=true:=HUE.out
          have HX:Hid (Gm.kl G (i+1)=Gm.kl G i++[(i:Int)]):=aA (HNX.out.trans (if_pos rfl))
          have HON2:=aA (HON.out.trans (if_pos rfl))
          have HAl:Hid (gA<wr.heap.size):=aA HS.out.a.lt
          clear HNX HON HUE HAL
          go_upto_region 18 with fail
          refine HAW.out.mono ?_;rintro _ w8 ⟨rfl,hw8⟩
          subst hw8
          go_upto_region 18 with fail
          obtain⟨w8,hw8⟩:∃y,y=wr.alloc (.cells #[.int .i64 ml,.slice A' r.length c',.int .i64 pz] 60):=⟨_,rfl⟩
          have HZ8:Hid (w8.heap.size=wr.heap.size+1):=aA (by rw[hw8];simp)
          rw[←hw8]at HS1' HK1 HD1 ⊢
          clear hw8 k0 k1 k2 q2 lq lg kr lr HAW
          go_upto_region 19 with(at_builtin;refine zaC rfl (.tmp 76) (.tmp 78) _ rfl Tryz.underlying43 (gA+1) _ _ rfl (HK1.out.alloc _) _ 1 i rfl (World.cell?_alloc_new _ _ _ 0) (by have:=HKL.out;have:=HR40.out;omega) (by have:=HAl.out;have:=HZ8.out;simp;omega) ?_;intro v' w9 ho9 hg9;have HS9:=aA ((HS1'.out.alloc _).other (HK1.out.alloc _) (by omega) hg9);have HK9:=aA ho9;have HD9:=aA (zaa (aE ((Below.refl _ _).alloc (Nat.le_refl _) _) HD1.out) (HK1.out.alloc _) (by decide) hg9);clear ho9 hg9)
          clear HS1' HK1 HD1
          have d0:w9.cell? ⟨wr.heap.size,0,none⟩=some (.int .i64 ml):=by rw[cell_of_row w9 _ 0 _ _ _ HD9.out];rfl
          have ld:=(Array.getElem?_eq_some_iff.1 HD9.out).1
          have kt:=HS9.out.a.cell ml (by rw[Gm.toL_len];exact hmln)
          rw[Gm.toL_at hmln]at kt
          have lt9:=HS9.out.a.lt
          by_cases hin:(ml:Int)∈Gm.oR G i
          ·have HX2:=aA (HON2.out.trans (if_pos hin))
           have hq:decide (Gm.pos (Gm.oR G i) ml<0)=false:=decide_eq_false (fun h=>Gm.pos_neg.1 h hin)
           generalize Gm.pos (Gm.oR G i) ml=pq at *
           clear hin HON2
           go_wp2
           go_roundw
           case rel=>exact⟨i+1,vN,hlt,by go_num,by rw[HX2.out];exact HS9,by rw[HX.out];exact HK9⟩
           case measure=>simp[intOf];omega
          ·have HX2:=aA (HON2.out.trans (if_neg hin))
           have hq:decide (Gm.pos (Gm.oR G i) ml<0)=true:=decide_eq_true (Gm.pos_neg.2 hin)
           have HIN:=aA hin
           obtain⟨A9,c9,rfl,_,_⟩:=aM HS9.out.nn
           have hnl:(Gm.nmL G (Gm.oR G i)).length=(Gm.oR G i).length:=by simp[Gm.nmL]
           have HNM:Hid (Gm.nmL G (Gm.oR G (i+1))=Gm.nmL G (Gm.oR G i)++[G.ns.getD ml []]):=aA (by rw[HX2.out];simp[Gm.nmL])
           have j1:w9.cell? ⟨H,1,none⟩=some (.slice A9 (Gm.nmL G (Gm.oR G i)).length c9):=by rw[cell_of_row w9 _ 1 _ _ _ HS9.out.h];rfl
           have lh:=block_lt_of_cell j1
           have fa:=HS9.out.a.frozen ml
           have HS10:Hid (RdS wc (w9.setCell ⟨gA,ml,none⟩ (.int .i64 (Gm.nmL G (Gm.oR G i)).length)) H gA #[vT,.slice A9 (Gm.nmL G (Gm.oR G i)).length c9,.slice none 0 0,.int .i64 0] vT (.slice A9 (Gm.nmL G (Gm.oR G i)).length c9) (.slice none 0 0) G.ts (Gm.nmL G (Gm.oR G i)) [] (Gm.toL G.ns.length (Gm.oR G (i+1)))):=aA (by
            have q:=HS9.out.setA ml ((Gm.nmL G (Gm.oR G i)).length:Int)
            rw[hnl]at q
            rw[HX2.out,←Gm.toL_snoc HIN.out]
            rw[hnl]
            exact q)
           have HK10:=aA (HK9.out.far (aD (World.grownBy.refl w9 (some gA)) ml (.int .i64 (Gm.nmL G (Gm.oR G i)).length)) (by omega))
           have HD10:=aA ((Below.heap_setCell w9 ⟨gA,ml,none⟩ (.int .i64 (Gm.nmL G (Gm.oR G i)).length) wr.heap.size (by have:=HAl.out;simp only;omega)).trans HD9.out)
           generalize Gm.pos (Gm.oR G i) ml=pq at *
           clear hin HON2 hnl
           go_upto_region 21 with fail
           obtain⟨wz,hwz⟩:∃y,y=w9.setCell ⟨gA,ml,none⟩ (.int .i64 (Gm.nmL G (Gm.oR G i)).length):=⟨_,rfl⟩
           rw[←hwz]at HS10 HK10 HD10 ⊢
           clear hwz HS9 HK9 HD9 d0 ld kt lt9 j1 lh fa
           obtain⟨gN,oN,rfl,hgN,hcN⟩:=HNm.out w1 HB1.out (by omega)
           have kN:=hcN ml hmln
           rw[show G.ns[ml]=G.ns.getD ml [] by rw[List.getD_eq_getElem?_getD,List.getElem?_eq_getElem hmln];rfl]at kN
           obtain⟨nm,hnm⟩:∃s,s=G.ns.getD ml []:=⟨_,rfl⟩
           rw[←hnm]at kN HNM
           clear hnm
           have hgn:gN<w1.heap.size:=by have:=HB.out;have:=HS1.out;omega
           have HYW:=aA (fun(y:World) (h:Below wc.heap.size wz y)=>HS10.out.w.trans h)
           have bN:=fun y:On9 wc.heap.size wr.heap.size wz=>((HW1.out y.1 (HYW.out y.1 y.2.1)).cell (p:=⟨gN,oN+ml,none⟩) hgn).trans kN
           have bq:=fun y:On9 wc.heap.size wr.heap.size wz=>(show y.1.cell? ⟨w.heap.size,1,none⟩=some (.slice (some ⟨gN,oN,none⟩) G.ns.length cN) by rw[cell_of_row y.1 _ 1 _ _ _ (HQC.out y.1 (HYW.out y.1 y.2.1))];rfl)
           have bd:=fun y:On9 wc.heap.size wr.heap.size wz=>(show y.1.cell? ⟨wr.heap.size,0,none⟩=some (.int .i64 ml) by rw[cell_of_row y.1 _ 0 _ _ _ (y.2.2.trans HD10.out)];rfl)
           have HS8:=aA HS10.out.drew
           have HK8:Hid (aS wz.drew (gA+1) v' (Gm.kl G i++[(i:Int)])):=aA (HK10.out.drewN 1)
           have HP8:Hid (Below wc.heap.size wz wz.drew∧wz.drew.heap[wr.heap.size]?=wz.heap[wr.heap.size]?):=aA ⟨aB (Below.refl _ _) 1,rfl⟩
           refine CalmN.region_tree (fun x=>∃y:On9 wc.heap.size wr.heap.size wz,x=y.1) (.two [0,2,3,4,5,6,7] 1 (.one [] 8 (.one [] 9 (.one [10] 11 (.fin [])))) 8 (.one [] 1 (.one [] 9 (.one [10] 11 (.fin []))))) (by kernel_rfl) (by kernel_rfl) (fun _ _ d _ _ h=>by cases d <;> exact h) ⟨⟨wz.drew,HP8.out⟩,rfl⟩ ?_
           simp only[CalmN.wpT,CalmN.wpSt,CalmN.pickOps,List.getElem?_toArray,List.getElem?_cons_zero,List.getElem?_cons_succ]
           repeat (go_big_quiet_step (fail))
           refine wpQuiet_nil ?_
           clear bN bq bd kN hcN
           obtain⟨w8',hw8⟩:∃y,y=wz.drew:=⟨_,rfl⟩
           rw[←hw8]at HS8 HK8 HP8 ⊢
           clear hw8 HS10 HK10
           have HS9:=aA (HS8.out.alloc (.cells #[.string (K.str nm)] 9))
           have HK9:=aA (HK8.out.alloc (.cells #[.string (K.str nm)] 9))
           have HP9:Hid (Below wc.heap.size wz (w8'.alloc (.cells #[.string (K.str nm)] 9))∧(w8'.alloc (.cells #[.string (K.str nm)] 9)).heap[wr.heap.size]?=wz.heap[wr.heap.size]?):=aA ⟨HP8.out.1.alloc HS8.out.w.size _,(Below.heap_alloc w8' _ _ (Array.getElem?_eq_some_iff.1 (HP8.out.2.trans HD10.out)).1).trans HP8.out.2⟩
           have HY9:Hid ((w8'.alloc (.cells #[.string (K.str nm)] 9)).cell? ⟨w8'.heap.size,0,none⟩=some (.string (K.str nm))):=aA (World.cell?_alloc_new _ _ _ 0)
           have n8:=cell_of_row w8' _ 1 _ _ _ HS8.out.h
           have n9:=cell_of_row _ _ 1 _ _ _ HS9.out.h
           have lh8:=(Array.getElem?_eq_some_iff.1 HS8.out.h).1
           have lh9:=(Array.getElem?_eq_some_iff.1 HS9.out.h).1
           refine⟨?_,?_⟩
           ·intro KK hKK
            rw[if_pos (by rfl)]
            go_wp2_with fail
            refine hKK _ _ ⟨⟨_,HP8.out⟩,rfl⟩ (fun x=>∃y:On9 wc.heap.size wr.heap.size wz,x=y.1) (fun _ h=>h) ⟨⟨_,HP8.out⟩,rfl⟩ ?_
            refine wpQuiet_nil ?_
            intro KK hKK
            rw[if_pos (by rfl)]
            go_wp2_with fail
            refine hKK _ _ ⟨⟨_,HP9.out⟩,rfl⟩ (fun x=>∃y:On9 wc.heap.size wr.heap.size wz,x=y.1) (fun _ h=>h) ⟨⟨_,HP9.out⟩,rfl⟩ ?_
            refine wpQuiet_nil ?_
            intro KK hKK
            rw[if_pos (by rfl)]
            refine zeJ (.tmp 94) (.tmp 101) _ rfl Tryz.underlying23 wc.heap.size _ _ rfl HS9.out.nn w8'.heap.size 1 _ rfl HY9.out (by have:=HOL.out;have:=HN40.out;unfold Gm.nmL;rw[List.length_map];omega) HS9.out.w.size ?_
            intro v2' w10 ho10 hg10
            have HS10:=aA (HS9.out.putN ho10 hg10)
            have HK10:Hid (aS w10 (gA+1) v' (Gm.kl G i++[(i:Int)])):=aA (World.ownsRow.kept HK9.out hg10 (zag HK9.out HS9.out.nn (by decide)))
            have HP10:Hid (Below wc.heap.size wz w10∧w10.heap[wr.heap.size]?=wz.heap[wr.heap.size]?):=aA ⟨HP9.out.1.grown hg10 HS9.out.w.size (fun k e=>(aH HS9.out.nn e).1),(zaa (HP9.out.2.trans HD10.out) HS9.out.nn (by decide) hg10).trans HD10.out.symm⟩
            obtain⟨A10,c10,rfl,_,_⟩:=aM ho10
            clear ho10 hg10
            obtain⟨n10,hn10⟩:∃n,n=(Gm.nmL G (Gm.oR G i)++[nm]).length:=⟨_,rfl⟩
            rw[←hn10]at HS10 ⊢
            clear hn10
            refine hKK _ _ ⟨⟨w10,HP10.out⟩,rfl⟩ (fun x=>∃y:On9 wc.heap.size wr.heap.size wz,x=y.1) (fun _ h=>h) ⟨⟨w10,HP10.out⟩,rfl⟩ ?_
            go_frame
            repeat (go_big_quiet_step (fail))
            refine wpQuiet_nil ?_
            intro KK hKK
            rw[if_pos (by rfl)]
            have j1:=cell_of_row w10 _ 1 _ _ _ HS10.out.h
            have f1:=frozen_of_row w10 _ 1 _ _ HS10.out.h
            have lh:=(Array.getElem?_eq_some_iff.1 HS10.out.h).1
            have HS11:=aA (HS10.out.setH 1 (.slice A10 n10 c10))
            have HK11:Hid (aS (w10.setCell ⟨H,1,none⟩ (.slice A10 n10 c10)) (gA+1) v' (Gm.kl G i++[(i:Int)])):=aA (World.ownsRow.kept HK10.out (aD (World.grownBy.refl w10 (some H)) 1 _) (aP HK10.out HS10.out.h (fun cur e=>by injection e with _ e;cases e)))
            have hHD:wr.heap.size≠H:=fun e=>by have h1:=HP10.out.2.trans HD10.out;rw[e,HS10.out.h]at h1;injection h1 with h1;injection h1 with _ h1;cases h1
            have HP11:Hid (Below wc.heap.size wz (w10.setCell ⟨H,1,none⟩ (.slice A10 n10 c10))∧(w10.setCell ⟨H,1,none⟩ (.slice A10 n10 c10)).heap[wr.heap.size]?=wz.heap[wr.heap.size]?):=aA ⟨HP10.out.1.setCell (p:=⟨H,1,none⟩) HS10.out.hH _,(Below.heap_setCell w10 ⟨H,1,none⟩ _ wr.heap.size hHD).trans HP10.out.2⟩
            clear hHD
            go_wp2_with fail
            refine hKK _ _ ⟨⟨_,HP11.out⟩,rfl⟩ (fun x=>∃y:On9 wc.heap.size wr.heap.size wz,x=y.1) (fun _ h=>h) ⟨⟨_,HP11.out⟩,rfl⟩ ?_
            clear j1 f1 lh
            refine wpQuiet_nil ?_
            go_wp2
            go_roundw
            case rel=>exact⟨i+1,_,hlt,by go_num,by rw[←HNM.out]at HS11;exact HS11,by rw[HX.out];exact HK11⟩
            case measure=>simp[intOf];omega
           ·intro KK hKK
            rw[if_pos (by rfl)]
            go_wp2_with fail
            refine hKK _ _ ⟨⟨_,HP9.out⟩,rfl⟩ (fun x=>∃y:On9 wc.heap.size wr.heap.size wz,x=y.1) (fun _ h=>h) ⟨⟨_,HP9.out⟩,rfl⟩ ?_
            refine wpQuiet_nil ?_
            intro KK hKK
            rw[if_pos (by rfl)]
            go_wp2_with fail
            refine hKK _ _ ⟨⟨_,HP9.out⟩,rfl⟩ (fun x=>∃y:On9 wc.heap.size wr.heap.size wz,x=y.1) (fun _ h=>h) ⟨⟨_,HP9.out⟩,rfl⟩ ?_
            refine wpQuiet_nil ?_
            intro KK hKK
            rw[if_pos (by rfl)]
            refine zeJ (.tmp 94) (.tmp 101) _ rfl Tryz.underlying23 wc.heap.size _ _ rfl HS9.out.nn w8'.heap.size 1 _ rfl HY9.out (by have:=HOL.out;have:=HN40.out;unfold Gm.nmL;rw[List.length_map];omega) HS9.out.w.size ?_
            intro v2' w10 ho10 hg10
            have HS10:=aA (HS9.out.putN ho10 hg10)
            have HK10:Hid (aS w10 (gA+1) v' (Gm.kl G i++[(i:Int)])):=aA (World.ownsRow.kept HK9.out hg10 (zag HK9.out HS9.out.nn (by decide)))
            have HP10:Hid (Below wc.heap.size wz w10∧w10.heap[wr.heap.size]?=wz.heap[wr.heap.size]?):=aA ⟨HP9.out.1.grown hg10 HS9.out.w.size (fun k e=>(aH HS9.out.nn e).1),(zaa (HP9.out.2.trans HD10.out) HS9.out.nn (by decide) hg10).trans HD10.out.symm⟩
            obtain⟨A10,c10,rfl,_,_⟩:=aM ho10
            clear ho10 hg10
            obtain⟨n10,hn10⟩:∃n,n=(Gm.nmL G (Gm.oR G i)++[nm]).length:=⟨_,rfl⟩
            rw[←hn10]at HS10 ⊢
            clear hn10
            refine hKK _ _ ⟨⟨w10,HP10.out⟩,rfl⟩ (fun x=>∃y:On9 wc.heap.size wr.heap.size wz,x=y.1) (fun _ h=>h) ⟨⟨w10,HP10.out⟩,rfl⟩ ?_
            go_frame
            repeat (go_big_quiet_step (fail))
            refine wpQuiet_nil ?_
            intro KK hKK
            rw[if_pos (by rfl)]
            have j1:=cell_of_row w10 _ 1 _ _ _ HS10.out.h
            have f1:=frozen_of_row w10 _ 1 _ _ HS10.out.h
            have lh:=(Array.getElem?_eq_some_iff.1 HS10.out.h).1
            have HS11:=aA (HS10.out.setH 1 (.slice A10 n10 c10))
            have HK11:Hid (aS (w10.setCell ⟨H,1,none⟩ (.slice A10 n10 c10)) (gA+1) v' (Gm.kl G i++[(i:Int)])):=aA (World.ownsRow.kept HK10.out (aD (World.grownBy.refl w10 (some H)) 1 _) (aP HK10.out HS10.out.h (fun cur e=>by injection e with _ e;cases e)))
            have hHD:wr.heap.size≠H:=fun e=>by have h1:=HP10.out.2.trans HD10.out;rw[e,HS10.out.h]at h1;injection h1 with h1;injection h1 with _ h1;cases h1
            have HP11:Hid (Below wc.heap.size wz (w10.setCell ⟨H,1,none⟩ (.slice A10 n10 c10))∧(w10.setCell ⟨H,1,none⟩ (.slice A10 n10 c10)).heap[wr.heap.size]?=wz.heap[wr.heap.size]?):=aA ⟨HP10.out.1.setCell (p:=⟨H,1,none⟩) HS10.out.hH _,(Below.heap_setCell w10 ⟨H,1,none⟩ _ wr.heap.size hHD).trans HP10.out.2⟩
            clear hHD
            go_wp2_with fail
            refine hKK _ _ ⟨⟨_,HP11.out⟩,rfl⟩ (fun x=>∃y:On9 wc.heap.size wr.heap.size wz,x=y.1) (fun _ h=>h) ⟨⟨_,HP11.out⟩,rfl⟩ ?_
            clear j1 f1 lh
            refine wpQuiet_nil ?_
            go_wp2
            go_roundw
            case rel=>exact⟨i+1,_,hlt,by go_num,by rw[←HNM.out]at HS11;exact HS11,by rw[HX.out];exact HK11⟩
            case measure=>simp[intOf];omega
       ·obtain rfl:i=G.rs.length:=by omega
        rw[Gm.oR_all]at HS
        obtain⟨AK,cK,hvk,_,_,_⟩:=HK.out.form
        subst hvk
        obtain⟨ks,hks⟩:∃ks,ks=Gm.kl G G.rs.length:=⟨_,rfl⟩
        rw[←hks]at HK ⊢
        have HKS:=aA hks
        have HKL:Hid (ks.length=(Gm.krs G).length):=aA (by rw[hks];exact Gm.kl_krs G)
        have hlenk:(ks.length:Int)≤9223372036854775807:=by have:=HKL.out;have:=Gm.krs_len G;have:=HR40.out;omega
        clear hks hlt
        have q2:wr.cell? ⟨w.heap.size,2,none⟩=some (.slice AR G.rs.length cR):=by rw[cell_of_row wr _ 2 _ _ _ (HQC.out wr HS.out.w)];rfl
        have lq:=block_lt_of_cell q2
        go_wp2
        go_loopw [13] (fun vk wr=>∃(k:Nat) (vR:Value),k≤ks.length∧vk=.int .i64 k∧Hid (RdS wc wr H gA #[vT,vN,vR,.int .i64 0] vT vN vR G.ts (Gm.nmL G (Gm.olds G)) (((Gm.krs G).take k).map (Gm.re (Gm.olds G))) (Gm.toL G.ns.length (Gm.olds G)))∧Hid (aS wr (gA+1) (.slice AK ks.length cK) ks)) (fun vk _=>ks.length-(intOf vk).toNat)
        case atStart=>exact⟨0,_,Nat.zero_le _,rfl,HS,HK⟩
        case round =>
         clear HS HK q2 lq
         obtain⟨k,vR,hk,rfl,HS,HK⟩:=hrel
         obtain⟨ws,hws⟩:∃y:World,y=wr:=⟨_,rfl⟩
         subst hws
         have HW1:=aA (fun(y:World) (h:Below wc.heap.size wc y)=>HBC.out.trans (h.mono HBC.out.size))
         by_cases hlt:k<ks.length
         ·obtain⟨gk,ok,rfl,hgk,hck⟩:=HK.out.rdOf (by omega)
          have kk:=hck k hlt
          rw[L.gd_lt hlt]at kk
          have lk:=block_lt_of_cell kk
          obtain⟨i,hLi,hi,hkk,hkr⟩:=Gm.kl_at (G:=G) (k:=k) (by rw[←HKS.out];exact hlt)
          have hLi2:ks[k]=(i:Int):=by simp only[HKS.out];exact hLi
          rw[hLi2]at kk
          have HKN:=aA (Gm.krs_next hkk)
          have hxk:(Gm.krs G)[k]∈Gm.krs G:=List.getElem_mem hkk
          rw[hkr]at HKN hxk
          have hxm:G.rs[i]∈G.rs:=List.getElem_mem hi
          have e:=HFT.out.r _ hxm
          have hxl:=HOK.out.lin _ hxm
          have HSN:=aA (HOK.out.sin _ hxm)
          have hr6:=(Gm.rule_in (HOK.out.rr _ hxm)).1
          obtain⟨g,o,rfl,hgB,hc⟩:=HRl.out w1 HB1.out (by omega)
          obtain⟨k0,⟨A',c',k1,_,_,hri⟩,k2⟩:=hc i hi
          have hgw:g<w1.heap.size:=by have:=HB.out;have:=HS1.out;omega
          have HRI:=aA (fun(y:World) (h:Below wc.heap.size wc y)=>hri.keep fun g o hg=>(HW1.out y h).cell (p:=⟨g,o,none⟩) (by have:=HB.out;have:=HS1.out;simp only;omega))
          have HRD:Hid (((Gm.krs G).take k).length≤40):=aA (by rw[List.length_take];have:=Gm.krs_len G;have:=HR40.out;omega)
          have HIN:=aA e.2.2
          generalize G.rs[i]=x at *
          obtain⟨l,r,pz⟩:=x
          simp only at k0 k1 k2 HRI HSN hr6 hxl HIN
          obtain⟨ml,rfl⟩:∃m:Nat,l=(m:Int):=⟨l.toNat,by omega⟩
          have hmli:=hxl.2
          have hmln:ml<G.ns.length:=by omega
          have hrl:(r.length:Int)≤9223372036854775807:=by omega
          have hii:(i:Int)<(G.rs.length:Int):=by omega
          have HRE:Hid (Gm.re (Gm.olds G) ⟨ml,r,pz⟩=⟨Gm.pos (Gm.olds G) ml,r.map (Gm.re1 (Gm.olds G)),pz⟩):=aA rfl
          have HTO:=aA (fun(i:Nat) (hi:i<G.ns.length)=>Gm.toL_in HOK.out (Gm.olds G) (Gm.olds_le HOK.out) G.ns.length i hi)
          go_upto_region 25 with fail
          have HYW:=aA (fun(y:World) (h:Below ws.heap.size ws y)=>HS.out.w.trans (h.mono HS.out.w.size))
          have b0:=fun y:Calm.On ws.heap.size ws=>((HW1.out y.1 (HYW.out y.1 y.2)).cell (p:=⟨g,o+i*3,none⟩) hgw).trans k0
          have b1:=fun y:Calm.On ws.heap.size ws=>((HW1.out y.1 (HYW.out y.1 y.2)).cell (p:=⟨g,o+i*3+1,none⟩) hgw).trans k1
          have b2:=fun y:Calm.On ws.heap.size ws=>((HW1.out y.1 (HYW.out y.1 y.2)).cell (p:=⟨g,o+i*3+2,none⟩) hgw).trans k2
          have bk:=fun y:Calm.On ws.heap.size ws=>(y.2.cell (p:=⟨gk,ok+k,none⟩) lk).trans kk
          have bq:=fun y:Calm.On ws.heap.size ws=>(show y.1.cell? ⟨w.heap.size,2,none⟩=some (.slice (some ⟨g,o,none⟩) G.rs.length cR) by rw[cell_of_row y.1 _ 2 _ _ _ (HQC.out y.1 (HYW.out y.1 y.2))];rfl)
          have HD0:Hid (Below ws.heap.size ws ws.drew):=aA (aB (Below.refl _ _) 1)
          clear kk hck hc hri hkk hkr hLi hLi2 hxk hxm e hxl k0 k1 k2
          refine CalmN.region_tree (fun x=>∃y:Calm.On ws.heap.size ws,x=y.1) (.one [0,1,2,3,4,5,6,7] 8 (.one [] 9 (.fin []))) (by kernel_rfl) (by kernel_rfl) (fun _ _ d _ _ h=>by cases d <;> exact h) ⟨⟨ws.drew,HD0.out⟩,rfl⟩ ?_
          simp only[CalmN.wpT,CalmN.wpSt,CalmN.pickOps,List.getElem?_toArray,List.getElem?_cons_zero,List.getElem?_cons_succ]
          repeat (go_big_quiet_step (fail))
          refine wpQuiet_nil ?_
          clear b0 b1 b2 bk bq
          obtain⟨wd,hwd⟩:∃y,y=ws.drew:=⟨_,rfl⟩
          have hzd:Hid (wd.heap.size=ws.heap.size):=aA (by rw[hwd];rfl)
          rw[←hwd]at HD0 ⊢
          clear hwd
          have ha0:=HD0.out.alloc HD0.out.size (.cells #[.int .i64 0,.slice none 0 0,.int .i64 0] 60)
          intro KK hKK
          rw[if_pos (by rfl)]
          go_wp2_with fail
          refine hKK _ _ ⟨⟨_,ha0⟩,rfl⟩ (fun x=>∃y:Calm.On ws.heap.size ws,x=y.1) (fun _ h=>h) ⟨⟨_,ha0⟩,rfl⟩ ?_
          refine wpQuiet_nil ?_
          have hx:=heap_alloc_new wd (.cells #[.int .i64 0,.slice none 0 0,.int .i64 0] 60)
          obtain⟨D,hD⟩:∃D,D=wd.heap.size:=⟨_,rfl⟩
          have HDs:Hid (ws.heap.size≤D):=aA (by have:=hzd.out;omega)
          rw[←hD]at hx ⊢
          obtain⟨wa,hwa⟩:∃y,y=wd.alloc (.cells #[.int .i64 0,.slice none 0 0,.int .i64 0] 60):=⟨_,rfl⟩
          rw[←hwa]at hx ha0 ⊢
          clear hwa hKK hD hzd
          have hs1':=heap_setCell_same wa D 0 _ _ (.int .i64 ml) hx
          have hs2':=heap_setCell_same _ D 1 _ _ (.slice A' r.length c') hs1'
          have hs3':=heap_setCell_same _ D 2 _ _ (.int .i64 pz) hs2'
          have hb3':=((ha0.setCell (p:=⟨D,0,none⟩) HDs.out (.int .i64 ml)).setCell (p:=⟨D,1,none⟩) HDs.out (.slice A' r.length c')).setCell (p:=⟨D,2,none⟩) HDs.out (.int .i64 pz)
          have d0:=cell_of_row wa _ 0 _ _ _ hx
          have d1:=cell_of_row wa _ 1 _ _ _ hx
          have d2:=cell_of_row wa _ 2 _ _ _ hx
          have f0:=frozen_of_row wa _ 0 _ _ hx
          have f1:=frozen_of_row wa _ 1 _ _ hx
          have f2:=frozen_of_row wa _ 2 _ _ hx
          have ld:=(Array.getElem?_eq_some_iff.1 hx).1
          clear hs1' hs2' ha0 hx
          intro KK hKK
          rw[if_pos (by rfl)]
          go_wp2_with fail
          obtain⟨we,hwe⟩:∃y,y=((wa.setCell ⟨D,0,none⟩ (.int .i64 ml)).setCell ⟨D,1,none⟩ (.slice A' r.length c')).setCell ⟨D,2,none⟩ (.int .i64 pz):=⟨_,rfl⟩
          rw[←hwe]at hs3' hb3' ⊢
          refine hKK _ _ ⟨⟨we,hb3'⟩,rfl⟩ (fun x=>∃y:Calm.On ws.heap.size ws,x=y.1) (fun _ h=>h) ⟨⟨we,hb3'⟩,rfl⟩ ?_
          have HD1:Hid (we.heap[D]?=some (.cells #[.int .i64 ml,.slice A' r.length c',.int .i64 pz] 60 (0,0))):=aA hs3'
          have HBE:=aA hb3'
          clear d0 d1 d2 f0 f1 f2 ld hs3' hb3' hwe hKK HD0
          refine wpQuiet_nil ?_
          go_upto_region 26 with fail
          have hDl:=(Array.getElem?_eq_some_iff.1 HD1.out).1
          have b0:=fun y:Calm.On we.heap.size we=>(show y.1.cell? ⟨D,0,none⟩=some (.int .i64 ml) by rw[cell_of_row y.1 _ 0 _ _ _ (aE y.2 HD1.out)];rfl)
          have b2:=fun y:Calm.On we.heap.size we=>(show y.1.cell? ⟨D,2,none⟩=some (.int .i64 pz) by rw[cell_of_row y.1 _ 2 _ _ _ (aE y.2 HD1.out)];rfl)
          obtain⟨tl,htl⟩:∃z,z=Gm.pos (Gm.olds G) (ml:Int):=⟨_,rfl⟩
          have kt:=(HBE.out.cell (p:=⟨gA,ml,none⟩) HS.out.a.lt).trans (HS.out.a.cell ml (by rw[Gm.toL_len];exact hmln))
          rw[Gm.toL_at hmln,←htl]at kt
          rw[←htl]at HRE
          clear htl
          have bt:=fun y:Calm.On we.heap.size we=>(y.2.cell (p:=⟨gA,ml,none⟩) (block_lt_of_cell kt)).trans kt
          have HD0:Hid (Below we.heap.size we we.drew):=aA (aB (Below.refl _ _) 1)
          refine CalmN.region_tree (fun x=>∃y:Calm.On we.heap.size we,x=y.1) (.one [0,1,2,3,4,5,6,7] 8 (.one [] 9 (.fin []))) (by kernel_rfl) (by kernel_rfl) (fun _ _ d _ _ h=>by cases d <;> exact h) ⟨⟨we.drew,HD0.out⟩,rfl⟩ ?_
          simp only[CalmN.wpT,CalmN.wpSt,CalmN.pickOps,List.getElem?_toArray,List.getElem?_cons_zero,List.getElem?_cons_succ]
          repeat (go_big_quiet_step (fail))
          refine wpQuiet_nil ?_
          clear b0 b2 bt kt
          obtain⟨wd2,hwd⟩:∃y,y=we.drew:=⟨_,rfl⟩
          have hzd:Hid (wd2.heap.size=we.heap.size):=aA (by rw[hwd];rfl)
          rw[←hwd]at HD0 ⊢
          clear hwd
          have ha0:=HD0.out.alloc HD0.out.size (.cells #[.int .i64 0,.slice none 0 0,.int .i64 0] 60)
          intro KK hKK
          rw[if_pos (by rfl)]
          go_wp2_with fail
          refine hKK _ _ ⟨⟨_,ha0⟩,rfl⟩ (fun x=>∃y:Calm.On we.heap.size we,x=y.1) (fun _ h=>h) ⟨⟨_,ha0⟩,rfl⟩ ?_
          refine wpQuiet_nil ?_
          have hx:=heap_alloc_new wd2 (.cells #[.int .i64 0,.slice none 0 0,.int .i64 0] 60)
          obtain⟨E,hE⟩:∃E,E=wd2.heap.size:=⟨_,rfl⟩
          have HEs:Hid (we.heap.size≤E∧D<E):=aA (by have:=hzd.out;omega)
          rw[←hE]at hx ⊢
          obtain⟨wa2,hwa⟩:∃y,y=wd2.alloc (.cells #[.int .i64 0,.slice none 0 0,.int .i64 0] 60):=⟨_,rfl⟩
          rw[←hwa]at hx ha0 ⊢
          clear hwa hKK hE hzd
          have hs1':=heap_setCell_same wa2 E 0 _ _ (.int .i64 tl) hx
          have hs2':=heap_setCell_same _ E 1 _ _ (.slice none 0 0) hs1'
          have hs3':=heap_setCell_same _ E 2 _ _ (.int .i64 pz) hs2'
          have hb3':=((ha0.setCell (p:=⟨E,0,none⟩) HEs.out.1 (.int .i64 tl)).setCell (p:=⟨E,1,none⟩) HEs.out.1 (.slice none 0 0)).setCell (p:=⟨E,2,none⟩) HEs.out.1 (.int .i64 pz)
          have d0:=cell_of_row wa2 _ 0 _ _ _ hx
          have d1:=cell_of_row wa2 _ 1 _ _ _ hx
          have d2:=cell_of_row wa2 _ 2 _ _ _ hx
          have f0:=frozen_of_row wa2 _ 0 _ _ hx
          have f1:=frozen_of_row wa2 _ 1 _ _ hx
          have f2:=frozen_of_row wa2 _ 2 _ _ hx
          have ld:=(Array.getElem?_eq_some_iff.1 hx).1
          clear hs1' hs2' ha0 hx
          intro KK hKK
          rw[if_pos (by rfl)]
          go_wp2_with fail
          obtain⟨wf,hwf⟩:∃y,y=((wa2.setCell ⟨E,0,none⟩ (.int .i64 tl)).setCell ⟨E,1,none⟩ (.slice none 0 0)).setCell ⟨E,2,none⟩ (.int .i64 pz):=⟨_,rfl⟩
          rw[←hwf]at hs3' hb3' ⊢
          refine hKK _ _ ⟨⟨wf,hb3'⟩,rfl⟩ (fun x=>∃y:Calm.On we.heap.size we,x=y.1) (fun _ h=>h) ⟨⟨wf,hb3'⟩,rfl⟩ ?_
          have HX0:Hid (wf.heap[E]?=some (.cells #[.int .i64 tl,.slice none 0 0,.int .i64 pz] 60 (0,0))):=aA hs3'
          have HDf:=aA (aE hb3' HD1.out)
          have HBF:=aA (HBE.out.trans (hb3'.mono HBE.out.size))
          have HEz:Hid (E<wf.heap.size):=aA (Array.getElem?_eq_some_iff.1 hs3').1
          clear d0 d1 d2 f0 f1 f2 ld hs3' hb3' hwf hKK HD0 HD1 HBE hDl
          refine wpQuiet_nil ?_
          go_wp2
          go_loopw [16] (fun vj wr=>∃(j:Nat) (vx:Value),j≤r.length∧vj=.int .i64 j∧Hid (Below ws.heap.size ws wr)∧Hid (wr.heap[D]?=some (.cells #[.int .i64 ml,.slice A' r.length c',.int .i64 pz] 60 (0,0)))∧Hid (wr.heap[E]?=some (.cells #[.int .i64 tl,vx,.int .i64 pz] 60 (0,0)))∧Hid (aS wr (E+1) vx ((r.take j).map (Gm.re1 (Gm.olds G))))) (fun vj _=>r.length-(intOf vj).toNat)
          case atStart=>exact⟨0,_,Nat.zero_le _,rfl,HBF,HDf,HX0,aA (aS.nil _ _)⟩
          case round =>
           clear HBF HDf HX0 HEz
           obtain⟨j,vx,hj,rfl,HBr,HDr,HEr,HOr⟩:=hrel
           obtain⟨Ax,cx,hvx,_,_,_⟩:=HOr.out.form
           subst hvx
           have d1:wr.cell? ⟨D,1,none⟩=some (.slice A' r.length c'):=by rw[cell_of_row wr _ 1 _ _ _ HDr.out];rfl
           have ld:=block_lt_of_cell d1
           have hEl:=(Array.getElem?_eq_some_iff.1 HEr.out).1
           by_cases hlt2:j<r.length
           ·obtain⟨g5,o5,rfl,hg5,hc5⟩:=HRI.out wr (HYW.out wr HBr.out) (by omega)
            have k5:=hc5 j hlt2
            rw[L.gd_lt hlt2]at k5
            have l5:=block_lt_of_cell k5
            have hz0:=HSN.out _ (List.getElem_mem hlt2)
            have hiz:=HIN.out _ (List.getElem_mem hlt2)
            have HT:Hid ((r.take (j+1)).map (Gm.re1 (Gm.olds G))=(r.take j).map (Gm.re1 (Gm.olds G))++[Gm.re1 (Gm.olds G) r[j]]):=aA (by rw[List.take_succ_eq_append_getElem hlt2,List.map_append,List.map_singleton])
            have HLx:Hid (((r.take j).map (Gm.re1 (Gm.olds G))).length≤1000):=aA (by rw[List.length_map,List.length_take];omega)
            have HST:=aA (fun u=>HBr.out.setCell (p:=⟨E,1,none⟩) (by have:=HEs.out;have:=HDs.out;simp only;omega) u)
            have hED:D≠E:=by have:=HEs.out;omega
            have HBG:Hid (∀k,E+1≤k→ws.heap.size≤k):=aA (fun k h=>by have:=HEs.out.2;have:=HDs.out;omega)
            unfold Gm.In at hiz
            generalize r[j]=z at *
            obtain⟨lx,hlx⟩:∃n,n=((r.take j).map (Gm.re1 (Gm.olds G))).length:=⟨_,rfl⟩
            rw[←hlx]at HEr HOr
            have HLX:=aA hlx
            have e1:wr.cell? ⟨E,1,none⟩=some (.slice Ax lx cx):=by rw[cell_of_row wr _ 1 _ _ _ HEr.out];rfl
            clear hc5 hlx
            by_cases hz:z<0
            ·obtain⟨q,hq⟩:∃q:Nat,-1-z=(q:Int):=⟨(-1-z).toNat,by omega⟩
             have hqn:=hz0 hz
             rw[hq]at hqn
             have hqq:=HTO.out q (by omega)
             have kt:=(HBr.out.cell (p:=⟨gA,q,none⟩) HS.out.a.lt).trans (HS.out.a.cell q (by rw[Gm.toL_len];omega))
             have lt5:=block_lt_of_cell kt
             have HEQ:Hid (Gm.re1 (Gm.olds G) z = -1-(Gm.toL G.ns.length (Gm.olds G)).getD q 0):=aA (by unfold Gm.re1;rw[if_pos hz,hq,Gm.toL_at (by omega)])
             generalize (Gm.toL G.ns.length (Gm.olds G)).getD q 0=tq at *
             have hw1':IntKind.i64.wrap (-1-z)=(q:Int):=by rw[IntWalk.i64_in _ (by omega)];exact hq
             have hzd:decide (z<0)=true:=decide_eq_true hz
             obtain⟨u,hu⟩:∃u,u = -1-tq:=⟨_,rfl⟩
             have hw2':IntKind.i64.wrap (-1-tq)=u:=by rw[hu];exact IntWalk.i64_in _ (by omega)
             rw[←hu]at HEQ
             rw[HEQ.out]at HT
             clear hz hq hiz hz0 hqq hu HEQ
             have HAB:Hid (∀y:World,(wr.alloc (.cells #[.int .i64 u] 3)).grownBy y (Value.slice Ax lx cx).ownBlock→y.heap[D]?=some (.cells #[.int .i64 ml,.slice (some ⟨g5,o5,none⟩) r.length c',.int .i64 pz] 60 (0,0))∧y.heap[E]?=some (.cells #[.int .i64 tl,.slice Ax lx cx,.int .i64 pz] 60 (0,0))∧Below ws.heap.size ws y):=aA (by
              have hOb:aS (wr.alloc (.cells #[.int .i64 u] 3)) (E+1) (.slice Ax lx cx) ((r.take j).map (Gm.re1 (Gm.olds G))):=HOr.out.alloc _
              have hDb:(wr.alloc (.cells #[.int .i64 u] 3)).heap[D]?=some (.cells #[.int .i64 ml,.slice (some ⟨g5,o5,none⟩) r.length c',.int .i64 pz] 60 (0,0)):=(Below.heap_alloc wr _ D (Array.getElem?_eq_some_iff.1 HDr.out).1).trans HDr.out
              have hEb:(wr.alloc (.cells #[.int .i64 u] 3)).heap[E]?=some (.cells #[.int .i64 tl,.slice Ax lx cx,.int .i64 pz] 60 (0,0)):=(Below.heap_alloc wr _ E (Array.getElem?_eq_some_iff.1 HEr.out).1).trans HEr.out
              have hBb:Below ws.heap.size ws (wr.alloc (.cells #[.int .i64 u] 3)):=HBr.out.alloc HBr.out.size _
              intro y h
              have hlt':=World.ownsRow.lt hOb
              exact⟨zaa hDb hOb (by decide) h,zaa hEb hOb (by decide) h,hBb.grown h hBb.size (fun k e=>HBG.out k (hlt' k e).1)⟩)
             have HOA:Hid (aS (wr.alloc (.cells #[.int .i64 u] 3)) (E+1) (.slice Ax lx cx) ((r.take j).map (Gm.re1 (Gm.olds G)))):=aA (HOr.out.alloc _)
             have HEA:Hid (E+1≤(wr.alloc (.cells #[.int .i64 u] 3)).heap.size):=aA (by simp;omega)
             have HEC:Hid (ws.heap.size≤E):=aA (by have:=HEs.out;have:=HDs.out;omega)
             have HEE:Hid (E<E+1):=aA (Nat.lt_succ_self E)
             have HLA:Hid (((r.take j).map (Gm.re1 (Gm.olds G))).length≤1000000000000):=aA (by have:=HLx.out;omega)
             go_wp2_with (at_builtin;(go_loud (refine zaC rfl (.tmp 147) (.tmp 149) _ rfl Tryz.underlying43 (E+1) _ _ rfl HOA.out _ 1 u rfl (World.cell?_alloc_new _ _ _ 0) HLA.out HEA.out ?_));intro v6 w6 ho6 hg6;rw[←HT.out]at ho6;obtain⟨hDx,hEx,hBx⟩:=HAB.out w6 hg6;have HDx:=aA hDx;have HEx:=aA hEx;have HBx:=aA hBx;have HO6:=aA ho6;obtain⟨A6,c6,hv6,_,_,_⟩:=ho6.form;subst hv6;obtain⟨n6,hn6⟩:∃n,n=((r.take (j+1)).map (Gm.re1 (Gm.olds G))).length:=⟨_,rfl⟩;rw[←hn6]at HO6 ⊢;have e1':w6.cell? ⟨E,1,none⟩=some (.slice Ax lx cx):=(cell_of_row w6 _ 1 _ _ _ HEx.out).trans rfl;have f1':=frozen_of_row w6 _ 1 _ _ HEx.out;have l1':=(Array.getElem?_eq_some_iff.1 HEx.out).1;have HB7:=aA (HBx.out.setCell (p:=⟨E,1,none⟩) HEC.out (.slice A6 n6 c6));have HD7:=aA ((Below.heap_setCell w6 ⟨E,1,none⟩ (.slice A6 n6 c6) D hED).trans HDx.out);have HE7:=aA (heap_setCell_same w6 E 1 _ _ (.slice A6 n6 c6) HEx.out);have HO7:Hid (aS (w6.setCell ⟨E,1,none⟩ (.slice A6 n6 c6)) (E+1) (.slice A6 n6 c6) ((r.take (j+1)).map (Gm.re1 (Gm.olds G)))):=aA (HO6.out.far (aD (World.grownBy.refl w6 (some E)) 1 _) HEE.out);clear ho6 hg6 hn6 hDx hEx hBx)
             go_roundw
             case rel=>exact⟨j+1,_,hlt2,by go_num,HB7,HD7,HE7,HO7⟩
             case measure=>simp[intOf];omega
            ·have HEQ:Hid (Gm.re1 (Gm.olds G) z=z):=aA (by unfold Gm.re1;rw[if_neg hz])
             have hzd:decide (z<0)=false:=decide_eq_false hz
             obtain⟨u,hu⟩:∃u,u=z:=⟨_,rfl⟩
             rw[←hu]at HEQ k5 hzd
             rw[←hu,HEQ.out]at HT
             clear hz hiz hz0 hu HEQ
             have HAB:Hid (∀y:World,(wr.alloc (.cells #[.int .i64 u] 3)).grownBy y (Value.slice Ax lx cx).ownBlock→y.heap[D]?=some (.cells #[.int .i64 ml,.slice (some ⟨g5,o5,none⟩) r.length c',.int .i64 pz] 60 (0,0))∧y.heap[E]?=some (.cells #[.int .i64 tl,.slice Ax lx cx,.int .i64 pz] 60 (0,0))∧Below ws.heap.size ws y):=aA (by
              have hOb:aS (wr.alloc (.cells #[.int .i64 u] 3)) (E+1) (.slice Ax lx cx) ((r.take j).map (Gm.re1 (Gm.olds G))):=HOr.out.alloc _
              have hDb:(wr.alloc (.cells #[.int .i64 u] 3)).heap[D]?=some (.cells #[.int .i64 ml,.slice (some ⟨g5,o5,none⟩) r.length c',.int .i64 pz] 60 (0,0)):=(Below.heap_alloc wr _ D (Array.getElem?_eq_some_iff.1 HDr.out).1).trans HDr.out
              have hEb:(wr.alloc (.cells #[.int .i64 u] 3)).heap[E]?=some (.cells #[.int .i64 tl,.slice Ax lx cx,.int .i64 pz] 60 (0,0)):=(Below.heap_alloc wr _ E (Array.getElem?_eq_some_iff.1 HEr.out).1).trans HEr.out
              have hBb:Below ws.heap.size ws (wr.alloc (.cells #[.int .i64 u] 3)):=HBr.out.alloc HBr.out.size _
              intro y h
              have hlt':=World.ownsRow.lt hOb
              exact⟨zaa hDb hOb (by decide) h,zaa hEb hOb (by decide) h,hBb.grown h hBb.size (fun k e=>HBG.out k (hlt' k e).1)⟩)
             have HOA:Hid (aS (wr.alloc (.cells #[.int .i64 u] 3)) (E+1) (.slice Ax lx cx) ((r.take j).map (Gm.re1 (Gm.olds G)))):=aA (HOr.out.alloc _)
             have HEA:Hid (E+1≤(wr.alloc (.cells #[.int .i64 u] 3)).heap.size):=aA (by simp;omega)
             have HEC:Hid (ws.heap.size≤E):=aA (by have:=HEs.out;have:=HDs.out;omega)
             have HEE:Hid (E<E+1):=aA (Nat.lt_succ_self E)
             have HLA:Hid (((r.take j).map (Gm.re1 (Gm.olds G))).length≤1000000000000):=aA (by have:=HLx.out;omega)
             go_wp2_with (at_builtin;(go_loud (refine zaC rfl (.tmp 147) (.tmp 149) _ rfl Tryz.underlying43 (E+1) _ _ rfl HOA.out _ 1 u rfl (World.cell?_alloc_new _ _ _ 0) HLA.out HEA.out ?_));intro v6 w6 ho6 hg6;rw[←HT.out]at ho6;obtain⟨hDx,hEx,hBx⟩:=HAB.out w6 hg6;have HDx:=aA hDx;have HEx:=aA hEx;have HBx:=aA hBx;have HO6:=aA ho6;obtain⟨A6,c6,hv6,_,_,_⟩:=ho6.form;subst hv6;obtain⟨n6,hn6⟩:∃n,n=((r.take (j+1)).map (Gm.re1 (Gm.olds G))).length:=⟨_,rfl⟩;rw[←hn6]at HO6 ⊢;have e1':w6.cell? ⟨E,1,none⟩=some (.slice Ax lx cx):=(cell_of_row w6 _ 1 _ _ _ HEx.out).trans rfl;have f1':=frozen_of_row w6 _ 1 _ _ HEx.out;have l1':=(Array.getElem?_eq_some_iff.1 HEx.out).1;have HB7:=aA (HBx.out.setCell (p:=⟨E,1,none⟩) HEC.out (.slice A6 n6 c6));have HD7:=aA ((Below.heap_setCell w6 ⟨E,1,none⟩ (.slice A6 n6 c6) D hED).trans HDx.out);have HE7:=aA (heap_setCell_same w6 E 1 _ _ (.slice A6 n6 c6) HEx.out);have HO7:Hid (aS (w6.setCell ⟨E,1,none⟩ (.slice A6 n6 c6)) (E+1) (.slice A6 n6 c6) ((r.take (j+1)).map (Gm.re1 (Gm.olds G)))):=aA (HO6.out.far (aD (World.grownBy.refl w6 (some E)) 1 _) HEE.out);clear ho6 hg6 hn6 hDx hEx hBx)
             go_roundw
             case rel=>exact⟨j+1,_,hlt2,by go_num,HB7,HD7,HE7,HO7⟩
             case measure=>simp[intOf];omega
           ·obtain rfl:j=r.length:=by omega
            rw[List.take_length]at HOr HEr
            have HSr:=aA (HS.out.below HBr.out)
            have HKr:=aA (HK.out.below HBr.out (Nat.le_refl _))
            have hvR:=zab HSr.out.r
            obtain⟨AR5,cR5,rfl,_,_⟩:=hvR
            obtain⟨lR,hlR⟩:∃n,n=(((Gm.krs G).take k).map (Gm.re (Gm.olds G))).length:=⟨_,rfl⟩
            obtain⟨lx,hlx⟩:∃n,n=(r.map (Gm.re1 (Gm.olds G))).length:=⟨_,rfl⟩
            rw[←hlR]at HSr
            rw[←hlx]at HEr HOr
            have HLX:=aA hlx
            have j2:wr.cell? ⟨H,2,none⟩=some (.slice AR5 lR cR5):=by rw[cell_of_row wr _ 2 _ _ _ HSr.out.h];rfl
            have lh:=block_lt_of_cell j2
            have e0:wr.cell? ⟨E,0,none⟩=some (.int .i64 tl):=by rw[cell_of_row wr _ 0 _ _ _ HEr.out];rfl
            have e1:wr.cell? ⟨E,1,none⟩=some (.slice Ax lx cx):=by rw[cell_of_row wr _ 1 _ _ _ HEr.out];rfl
            have e2:wr.cell? ⟨E,2,none⟩=some (.int .i64 pz):=by rw[cell_of_row wr _ 2 _ _ _ HEr.out];rfl
            obtain⟨Ay,cy,hy,ry1,ry2,hrow⟩:=HOr.out.row (B:=wc.heap.size) (by have:=HEs.out;have:=HDs.out;have:=HS.out.w.size;omega)
            injection hy with hy1 hy2 hy3
            subst hy1 hy3
            have HSa:=aA (HSr.out.alloc (.cells #[.int .i64 tl,.slice Ax lx cx,.int .i64 pz] 60))
            have HKa:=aA (HKr.out.alloc (.cells #[.int .i64 tl,.slice Ax lx cx,.int .i64 pz] 60))
            have HROW:=aA ((hrow.grown (World.grownBy_alloc wr (.cells #[.int .i64 tl,.slice Ax lx cx,.int .i64 pz] 60) none) (fun g e=>by cases e)).more (show wr.heap.size≤(wr.alloc (.cells #[.int .i64 tl,.slice Ax lx cx,.int .i64 pz] 60)).heap.size by simp))
            have HNC:Hid (∀j u,(rlC (⟨tl,r.map (Gm.re1 (Gm.olds G)),pz⟩,Ax,cx))[j]?=some u→(wr.alloc (.cells #[.int .i64 tl,.slice Ax lx cx,.int .i64 pz] 60)).cell? ⟨wr.heap.size,j,none⟩=some u):=aA (fun j u hj=>by
             have h:=aK wr [.int .i64 tl,.slice Ax lx cx,.int .i64 pz] 60 j
             rw[HLX.out]at h ⊢
             exact h.trans hj)
            have HR12:=aA (And.intro ry1 ry2)
            have HRL5:Hid ((((Gm.krs G).take k).map (Gm.re (Gm.olds G))).length≤1000000):=aA (by rw[List.length_map];have:=HRD.out;omega)
            clear hlR hlx hy2 ry1 ry2 hrow
            go_wp2_with (at_builtin;(go_loud (refine zhC rfl (.tmp 153) (.tmp 155) _ rfl Tryz.underlying24 wc.heap.size _ (.slice AR5 lR cR5) _ rfl HSa.out.r _ _ (⟨tl,r.map (Gm.re1 (Gm.olds G)),pz⟩,Ax,cx) rfl HNC.out ⟨HR12.out.1,HR12.out.2,HROW.out⟩ HRL5.out HSa.out.w.size (Nat.le_refl _) ?_));intro v5 w5 ho5 hg5;rw[←HRE.out,←HKN.out]at ho5;have HS5:=aA (HSa.out.putR ho5 hg5);have HK5:Hid (aS w5 (gA+1) (.slice (some ⟨gk,ok,none⟩) ks.length cK) ks):=aA (by obtain⟨qs,_,h2,_⟩:=id HSa.out.r;exact World.ownsRow.kept HKa.out hg5 (zag HKa.out h2 (by decide)));obtain⟨A6,c6,rfl,_,_⟩:=zab ho5;obtain⟨n6,hn6⟩:∃n,n=(((Gm.krs G).take (k+1)).map (Gm.re (Gm.olds G))).length:=⟨_,rfl⟩;rw[←hn6]at HS5 ⊢;have j2':=cell_of_row w5 _ 2 _ _ _ HS5.out.h;have f2':=frozen_of_row w5 _ 2 _ _ HS5.out.h;have lh':=(Array.getElem?_eq_some_iff.1 HS5.out.h).1;have HS6:=aA (HS5.out.setH 2 (.slice A6 n6 c6));have HK6:Hid (aS (w5.setCell ⟨H,2,none⟩ (.slice A6 n6 c6)) (gA+1) (.slice (some ⟨gk,ok,none⟩) ks.length cK) ks):=aA (World.ownsRow.kept HK5.out (aD (World.grownBy.refl w5 (some H)) 2 _) (aP HK5.out HS5.out.h (fun cur e=>by injection e with _ e;cases e)));clear ho5 hg5 hn6)
            go_roundw
            case rel=>exact⟨k+1,_,hlt,by go_num,HS6,HK6⟩
            case measure=>simp[intOf];omega
         ·obtain rfl:k=ks.length:=by omega
          rw[HKL.out,List.take_length]at HS
          obtain⟨AT5,cT5,rfl,_,_⟩:=aM HS.out.t
          obtain⟨AN5,cN5,rfl,_,_⟩:=aM HS.out.nn
          obtain⟨AR5,cR5,rfl,_,_⟩:=zab HS.out.r
          have HP:Hid ((Gm.toL G.ns.length (Gm.olds G)).getD m 0=Gm.pos (Gm.olds G) G.st):=aA (by rw[Gm.toL_at hmn,←HM.out])
          have q3:ws.cell? ⟨w.heap.size,3,none⟩=some (.int .i64 m):=by rw[cell_of_row ws _ 3 _ _ _ (HQC.out ws HS.out.w),←HM.out];rfl
          have km:=HS.out.a.cell m (by rw[Gm.toL_len];exact hmn)
          rw[HP.out]at km
          have la:=HS.out.a.lt
          have lq:=block_lt_of_cell q3
          have j3:=cell_of_row ws _ 3 _ _ _ HS.out.h
          have f3:=frozen_of_row ws _ 3 _ _ HS.out.h
          have lh:=(Array.getElem?_eq_some_iff.1 HS.out.h).1
          obtain⟨pp,hpp⟩:∃z,z=Gm.pos (Gm.olds G) G.st:=⟨_,rfl⟩
          rw[←hpp]at km
          have HPP:=aA hpp
          have HSF:=aA (HS.out.setH 3 (.int .i64 pp))
          have HKF:Hid (aS (ws.setCell ⟨H,3,none⟩ (.int .i64 pp)) (gA+1) (.slice AK ks.length cK) ks):=aA (World.ownsRow.kept HK.out (aD (World.grownBy.refl ws (some H)) 3 _) (aP HK.out HS.out.h (fun cur e=>by injection e with _ e;cases e)))
          obtain⟨wy,hwy⟩:∃y,y=ws.setCell ⟨H,3,none⟩ (.int .i64 pp):=⟨_,rfl⟩
          rw[←hwy]at HSF HKF
          clear hpp HP
          go_upto_region 36 with fail
          rw[←hwy]
          clear hwy q3 km la lq j3 f3 lh
          have j0:wy.cell? ⟨H,0,none⟩=some (.slice AT5 G.ts.length cT5):=by rw[cell_of_row wy _ 0 _ _ _ HSF.out.h];rfl
          have j1:wy.cell? ⟨H,1,none⟩=some (.slice AN5 (Gm.nmL G (Gm.olds G)).length cN5):=by rw[cell_of_row wy _ 1 _ _ _ HSF.out.h];rfl
          have j2:wy.cell? ⟨H,2,none⟩=some (.slice AR5 ((Gm.krs G).map (Gm.re (Gm.olds G))).length cR5):=by rw[cell_of_row wy _ 2 _ _ _ HSF.out.h];rfl
          have j3:wy.cell? ⟨H,3,none⟩=some (.int .i64 pp):=by rw[cell_of_row wy _ 3 _ _ _ HSF.out.h];rfl
          have lh:=(Array.getElem?_eq_some_iff.1 HSF.out.h).1
          have hby:=HBC.out.trans (HSF.out.w.mono HBC.out.size)
          have g0:wy.cell? ⟨w.heap.size+1,0,none⟩=some (.slice none 0 0):=by rw[cell_of_row wy _ 0 _ _ _ (HZ.out wy hby)];rfl
          have g1:wy.cell? ⟨w.heap.size+1,1,none⟩=some (.slice none 0 0):=by rw[cell_of_row wy _ 1 _ _ _ (HZ.out wy hby)];rfl
          have g2:wy.cell? ⟨w.heap.size+1,2,none⟩=some (.slice none 0 0):=by rw[cell_of_row wy _ 2 _ _ _ (HZ.out wy hby)];rfl
          have g3:wy.cell? ⟨w.heap.size+1,3,none⟩=some (.int .i64 0):=by rw[cell_of_row wy _ 3 _ _ _ (HZ.out wy hby)];rfl
          have e0:=frozen_of_row wy _ 0 _ _ (HZ.out wy hby)
          have e1:=frozen_of_row wy _ 1 _ _ (HZ.out wy hby)
          have e2:=frozen_of_row wy _ 2 _ _ (HZ.out wy hby)
          have e3:=frozen_of_row wy _ 3 _ _ (HZ.out wy hby)
          have lz:=(Array.getElem?_eq_some_iff.1 (HZ.out wy hby)).1
          have HBF:=aA (fun u1 u2 u3 u4=>((((HBX.out wy hby).setCell (p:=⟨w.heap.size+1,0,none⟩) (by simp only;omega) u1).setCell (p:=⟨w.heap.size+1,1,none⟩) (by simp only;omega) u2).setCell (p:=⟨w.heap.size+1,2,none⟩) (by simp only;omega) u3).setCell (p:=⟨w.heap.size+1,3,none⟩) (by simp only;omega) u4)
          have hgf:=aD (aD (aD (aD (World.grownBy.refl wy (some (w.heap.size+1))) 0 (.slice AT5 G.ts.length cT5)) 1 (.slice AN5 (Gm.nmL G (Gm.olds G)).length cN5)) 2 (.slice AR5 ((Gm.krs G).map (Gm.re (Gm.olds G))).length cR5)) 3 (.int .i64 pp)
          have hwc:w.heap.size+1<wc.heap.size:=by have:=HBC.out.size;have:=HS1.out;omega
          have hRG:Gm.reduce G=⟨G.ts,Gm.nmL G (Gm.olds G),(Gm.krs G).map (Gm.re (Gm.olds G)),pp⟩:=by rw[HPP.out];rfl
          have HGR:=aA ((show zcw wy wc.heap.size (.agg #[.slice AT5 G.ts.length cT5,.slice AN5 (Gm.nmL G (Gm.olds G)).length cN5,.slice AR5 ((Gm.krs G).map (Gm.re (Gm.olds G))).length cR5,.int .i64 pp]) (Gm.reduce G) from by rw[hRG];exact⟨_,_,_,rfl,HSF.out.t,HSF.out.nn,HSF.out.r⟩).grown hgf (fun g e=>by injection e with e;omega))
          have HRF:=aA (HKF.out.far hgf (by have:=HSF.out.hA;omega))
          generalize Gm.nmL G (Gm.olds G)=nms at *
          generalize (Gm.krs G).map (Gm.re (Gm.olds G))=rls at *
          clear hgf hRG hwc hby HS HSF HK HKF
          go_wp2
          refine bodyPost_ret (v:=.tuple #[.agg #[.slice AT5 G.ts.length cT5,.slice AN5 nms.length cN5,.slice AR5 rls.length cR5,.int .i64 pp],.slice AK ks.length cK,.int .i64 0]) (by simp[results,Tryz.results41,go_sem,g0,g1,g2,g3]) rfl ?_
          exact zaK.ok HE.out HKS.out HGR.out.rd HRF.out.rdOf (HBF.out _ _ _ _)
theorem zf1 (v:Value) (G:Gm.Gr) (B:Nat) (w:World) (hg:aT w B v G) (hf:Gm.Fit G) (hB:B≤w.heap.size) :
  Calls Tryz.prog 23 #[v] w fun e w'=>e=.returned (.bool (Gm.isB G))∧Below w.heap.size w w':=by
 have H1:=aA (fun(x:World) (h:Below w.heap.size w x)=>zdY v G B x (hg.below h hB) hf (Nat.le_trans hB h.size))
 have H2:=aA (fun(x:World) (h:Below w.heap.size w x) (u:Value) (B':Nat) (hu:aT x B' u (Gm.rdG G)) (hB':B'≤x.heap.size)=>zfP v u G (Gm.rdG G) B B' x (hg.below h hB) hu hf (Gm.rdG_fit hf) (Nat.le_trans hB h.size) hB')
 have hin:=Gm.rdE_in G
 have HI:Hid (Gm.isB G=(decide (Gm.rdE G=0)&&Gm.same G (Gm.rdG G))):=aA rfl
 obtain⟨AT,cT,AN,cN,AR,cR,rfl,_⟩:=hg
 have HS0:=aA (One.start w #[.slice AT G.ts.length cT,.slice AN G.ns.length cN,.slice AR G.rs.length cR,.int .i64 G.st])
 unfold zaK at H1
 generalize Gm.rdL G=L at *
 generalize Gm.rdE G=er at *
 generalize Gm.rdG G=RG at *
 clear hf
 by_cases he:er=0
 ·have HX:Hid (Gm.isB G=Gm.same G RG):=aA (by rw[HI.out,decide_eq_true he];rfl)
  subst he
  clear hin HI
  go_enter Tryz.func23,Tryz.ntmps23
  go_wp2_with fail
  refine(H1.out _ HS0.out.below).mono ?_;rintro _ w2 ⟨g,A,c,rfl,hg2,hr2,hb2⟩
  have HB2:=aA (HS0.out.on hb2)
  have HG2:=aA hg2
  obtain⟨A0,d0,A1,d1,A2,d2,rfl,_⟩:=hg2
  have HT0:=aA (One.start w2 #[.slice A0 RG.ts.length d0,.slice A1 RG.ns.length d1,.slice A2 RG.rs.length d2,.int .i64 RG.st])
  have HB3:=aA (HB2.out.on HT0.out.below)
  have x0:=HB3.out.c 0 _ rfl
  have x1:=HB3.out.c 1 _ rfl
  have x2:=HB3.out.c 2 _ rfl
  have x3:=HB3.out.c 3 _ rfl
  have hz2:w.heap.size<w2.heap.size:=HB2.out.size
  clear hr2 hb2
  go_wp2_with fail
  refine(H2.out _ HB3.out.below _ w2.heap.size (HG2.out.below HT0.out.below (Nat.le_refl _)) HT0.out.below.size).mono ?_;rintro _ w4 ⟨rfl,hb4⟩
  have HB4:=aA (HB3.out.on hb4)
  clear hb4 x0 x1 x2 x3
  go_wp2
  go_ret
  exact⟨by rw[HX.out];rfl,HB4.out.below⟩
 ·have HX:Hid (Gm.isB G=false):=aA (by rw[HI.out,decide_eq_false he];rfl)
  have he2:(er==0)=false:=by simpa using he
  clear HI H2
  go_enter Tryz.func23,Tryz.ntmps23
  go_wp2_with fail
  refine(H1.out _ HS0.out.below).mono ?_;rintro _ w2 ⟨g,A,c,rfl,hg2,hr2,hb2⟩
  have HB2:=aA (HS0.out.on hb2)
  obtain⟨A0,d0,A1,d1,A2,d2,rfl,_⟩:=hg2
  clear hr2 hb2
  go_wp2
  go_ret
  exact⟨by rw[HX.out];rfl,(HB2.out.alloc _).below⟩
end Go.Proofs.YtabmfpgpkbndeaaGreat
