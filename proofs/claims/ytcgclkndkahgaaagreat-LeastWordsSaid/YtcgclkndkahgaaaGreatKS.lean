/- Part of the proofs over this program: LsRef7, WalkWords14. -/
import Derived.Test.YtcgclkndkahgaaaGreatKL
namespace Go.Proofs.YtcgclkndkahgaaaGreat
set_option maxRecDepth 100000
set_option maxHeartbeats 40000000
open Go.RowKit
theorem zhu {l:List Int} {p:Int→Bool} {k:Nat} (h:k<l.length):(l.take (k+1)).all p=((l.take k).all p&&p l[k]):=by
 rw[List.take_succ_eq_append_getElem h,List.all_append];simp
theorem zht {l:List Int} {p:Int→Bool} {k:Nat} (h:k<l.length) (hp:p l[k]=false):l.all p=false:=List.all_eq_false.2 ⟨_,List.getElem_mem h,by rw[hp];simp⟩
noncomputable def Gm.emP (G:Gm.Gr) (l:List Int):Bool:=Gm.tr (¬Gm.Pr G l)
theorem Gm.emP_take {G:Gm.Gr} {l:List Int} {k:Nat} (h:k<l.length):Gm.emP G (l.take (k+1))=(Gm.emP G (l.take k)||Gm.tr (l[k]<0∧¬Gm.Gn true G.rs (-1-l[k]))):=by
 unfold Gm.emP
 rw[Bool.eq_iff_iff,Bool.or_eq_true,Gm.tr_iff,Gm.tr_iff,Gm.tr_iff,List.take_succ_eq_append_getElem h]
 constructor
 ·intro hn
  by_cases h1:Gm.Pr G (l.take k)
  ·refine .inr (Classical.byContradiction fun hc=>hn fun z hz h0=>?_)
   rcases List.mem_append.1 hz with h2|h2
   ·exact h1 z h2 h0
   ·rw[List.mem_singleton]at h2
    subst h2
    exact Classical.byContradiction fun hg=>hc ⟨h0,hg⟩
  ·exact .inl h1
 ·rintro(h1|h1) hp
  ·exact h1 fun z hz h0=>hp z (List.mem_append_left _ hz) h0
  ·exact h1.2 (hp _ (List.mem_append_right _ (List.mem_singleton_self _)) h1.1)
theorem ze6 (v:Value) (G:Gm.Gr) (l:List Int) (A:Option Addr) (c B:Nat) (w:World) (hg:aN w B v G) (hf:Gm.Fit G) (hB:B≤w.heap.size) (hr:RdI w B A l) (hin:∀z∈l,Gm.In z) (hl:l.length≤1000000) :
  Calls Tryz.prog 17 #[v,.slice A l.length c] w (aV (Gm.wdL G l) (Gm.wdE G l) w):=by
 have H1:=aA (fun(x:World) (h:Below w.heap.size w x)=>zaC v G B x (hg.below h hB) hf (Nat.le_trans hB h.size))
 have H2:=aA (fun(q:Gm.right G=true) (x:World) (h:Below w.heap.size w x)=>(show Calls _ _ _ _ (zgp (Gm.best G (Gm.hts G)) x) from by have:=zaY v G B x (hg.below h hB) hf (Nat.le_trans hB h.size);unfold Gm.bestG at this;rw[if_pos q]at this;exact this))
 have H3:=aA (fun(q:Gm.right G=true) (x:World) (h:Below w.heap.size w x)=>zcd v G B x (hg.below h hB) hf q (Nat.le_trans hB h.size))
 have HHA:=aA (fun(z:Int) (hz:Gm.In z) (x:World) (h:Below w.heap.size w x)=>zcV v G B z hz x (hg.below h hB))
 have HGG:=aA (fun(x:World) (h:Below w.heap.size w x)=>hg.below h hB)
 obtain⟨AT,cT,AN,cN,AR,cR,rfl,_⟩:=hg
 have HS0:=aA (One.start w #[.slice AT G.ts.length cT,.slice AN G.ns.length cN,.slice AR G.rs.length cR,.int .i64 G.st])
 have HF:=aA hf
 have HB:=aA hB
 have HR:=aA hr
 have HIN:=aA hin
 have HL:=aA hl
 have hlen:(l.length:Int)≤9223372036854775807:=by omega
 clear hf hB hr hin hl
 cases q:Gm.right G with
 | false =>
  rw[q]at H1
  have HE:=aA (Gm.wdE_arg (G:=G) (l:=l) (by rw[q];simp))
  clear q H2 H3
  go_enter Tryz.func17,Tryz.ntmps17
  go_wp2_with fail
  refine(H1.out _ HS0.out.below).mono ?_;rintro _ w2 ⟨rfl,hb⟩
  have HB2:=aA (HS0.out.on hb)
  clear hb
  go_wp2
  go_ret2
  exact aV.no HE.out (Gm.wdL_no (by rw[HE.out];decide)) HB2.out.below
 | true =>
  have H2:=aA (H2.out q)
  have H3:=aA (H3.out q)
  have HOK:=aA (Gm.right_ok.1 q)
  have HQ:=aA q
  have HN:=aA ((Gm.nons_iff G).1 HOK.out.n).2.1
  rw[q]at H1
  clear q
  go_enter Tryz.func17,Tryz.ntmps17
  go_wp2_with fail
  refine(H1.out _ HS0.out.below).mono ?_;rintro _ w2 ⟨rfl,hb⟩
  have HB2:=aA (HS0.out.on hb)
  have q0:=HB2.out.c 0 _ rfl
  have q1:=HB2.out.c 1 _ rfl
  have q2:=HB2.out.c 2 _ rfl
  have q3:=HB2.out.c 3 _ rfl
  have hz2:w.heap.size<w2.heap.size:=HB2.out.size
  clear hb H1
  go_upto_region 4 with fail
  refine(H2.out _ HB2.out.below).mono ?_;rintro _ w3 ⟨v3,rfl,ho3,hb3⟩
  obtain⟨A3,c3,rfl,_,_,hr3⟩:=ho3.form
  rw[Gm.best_len]
  have HB3:=aA (HB2.out.on hb3)
  have HR3:=aA hr3
  obtain⟨s3,hs3⟩:∃s,s=w3.heap.size:=⟨_,rfl⟩
  rw[←hs3]at HR3
  have HZ3:Hid (s3≤w3.heap.size):=aA (by omega)
  clear ho3 hb3 hr3 hs3 q0 q1 q2 q3 hz2 H2 HB2 HS0
  go_wp2
  go_loopw [8,7] (fun vi ve wr=>∃(k:Nat) (b:Bool),k≤l.length∧vi=.int .i64 k∧ve=.bool b∧Hid (b=Gm.emP G (l.take k))∧Hid ((l.take k).all (Gm.has G)=true)∧Hid (RdI wr s3 A3 (Gm.best G (Gm.hts G)))∧Hid (s3≤wr.heap.size)∧Hid (One w #[.slice AT G.ts.length cT,.slice AN G.ns.length cN,.slice AR G.rs.length cR,.int .i64 G.st] wr)) (fun vi _ _=>l.length-(intOf vi).toNat)
  case atStart=>exact⟨0,false,Nat.zero_le _,rfl,rfl,aA (by unfold Gm.emP;exact(Gm.tr_no.2 (fun h=>h (fun z hz=>by simp at hz))).symm),aA (by simp),HR3,HZ3,HB3⟩
  case round =>
   clear HR3 HZ3 HB3
   obtain⟨k,b,hk,rfl,rfl,HEb,HK,HR3,HZ,HW⟩:=hrel
   have hd:w.heap.size<wr.heap.size:=HW.out.size
   by_cases hlt:k<l.length
   ·have q0:=fun y:Calm.On wr.heap.size wr=>(y.2.cell (p:=⟨w.heap.size,0,none⟩) hd).trans (HW.out.c 0 _ rfl)
    have q1:=fun y:Calm.On wr.heap.size wr=>(y.2.cell (p:=⟨w.heap.size,1,none⟩) hd).trans (HW.out.c 1 _ rfl)
    have q2:=fun y:Calm.On wr.heap.size wr=>(y.2.cell (p:=⟨w.heap.size,2,none⟩) hd).trans (HW.out.c 2 _ rfl)
    have q3:=fun y:Calm.On wr.heap.size wr=>(y.2.cell (p:=⟨w.heap.size,3,none⟩) hd).trans (HW.out.c 3 _ rfl)
    obtain⟨g,o,rfl,hgb,hc⟩:=(HR.out.below HW.out.below HB.out) (by omega)
    have kc:=hc k hlt
    rw[L.gd_lt hlt]at kc
    have hgw:g<wr.heap.size:=by have:=HB.out;have:=HW.out.below.size;omega
    have k0:=fun y:Calm.On wr.heap.size wr=>(y.2.cell (p:=⟨g,o+k,none⟩) hgw).trans kc
    have HKC:=aA kc
    have hzi:=HIN.out _ (List.getElem_mem hlt)
    have HHz:=aA (fun x h=>HHA.out l[k] (HIN.out _ (List.getElem_mem hlt)) x h)
    have HNt:=aA (zhu (p:=Gm.has G) hlt)
    have HYt:=aA (fun h=>zht (p:=Gm.has G) hlt h)
    have HEM:=aA (Gm.emP_take (G:=G) hlt)
    rw[←HEb.out]at HEM
    have HSB:Hid (∀z,Below wr.heap.size wr z→∃q:Calm.On wr.heap.size wr,z=q.1):=aA (fun z hz=>⟨⟨z,hz⟩,rfl⟩)
    have HD:Hid (Below wr.heap.size wr wr.drew):=aA (aB (Below.refl _ _) 1)
    have HGW:=aA hgw
    clear hc kc
    unfold Gm.In at hzi
    generalize l[k]=z at *
    obtain⟨hb0,hhb⟩:∃x,x=Gm.has G z:=⟨_,rfl⟩
    rw[←hhb]at HHz
    have HHB:=aA hhb
    clear hhb
    go_upto_region 8 with fail
    refine CalmN.region_tree (fun x=>∃y:Calm.On wr.heap.size wr,x=y.1) (.one [0,1,2,3,4] 5 (.fin [6])) (by kernel_rfl) (by kernel_rfl) (fun _ _ d _ _ h=>by cases d <;> exact h) ⟨⟨wr.drew,HD.out⟩,rfl⟩ ?_
    simp only[CalmN.wpT,CalmN.wpSt,CalmN.pickOps,List.getElem?_toArray,List.getElem?_cons_zero,List.getElem?_cons_succ]
    repeat (go_big_quiet_step (fail))
    refine wpQuiet_nil ?_
    generalize wr.drew=wd at *
    clear q0 q1 q2 q3 k0
    intro KK hKK
    rw[if_pos (by rfl)]
    go_wp2_with fail
    refine(HHz.out wd (HW.out.on HD.out).below).mono ?_;rintro _ we ⟨rfl,hb⟩
    have HE2:=aA (HD.out.trans (hb.mono HD.out.size))
    clear hb
    go_wp2_with fail
    refine hKK _ _ (HSB.out _ HE2.out) (fun x=>∃y:Calm.On wr.heap.size wr,x=y.1) (fun _ h=>h) (HSB.out _ HE2.out) ?_
    clear hKK
    repeat (go_big_quiet_step (fail))
    refine wpQuiet_nil ?_
    have HW2:=aA (HW.out.on HE2.out)
    have HRX:=aA (HR3.out.below HE2.out HZ.out)
    have HZ2:=aA (Nat.le_trans HZ.out HE2.out.size)
    cases hb0
    ·have HE:=aA (Gm.wdE_arg (G:=G) (l:=l) (by rw[HYt.out HHB.out.symm];simp))
     clear HHB HYt HNt
     go_wp2
     go_ret2
     exact aV.no HE.out (Gm.wdL_no (by rw[HE.out];decide)) HW2.out.below
    ·have HA2:=aA (HNt.out.trans (by rw[HK.out,←HHB.out]))
     have hsn:=Gm.has_sin HHB.out.symm
     have kz:=(HE2.out.cell (p:=⟨g,o+k,none⟩) hgw).trans HKC.out
     have lg:g<we.heap.size:=Nat.lt_of_lt_of_le hgw HE2.out.size
     clear HHB HYt HNt
     cases b
     ·rw[Bool.false_or]at HEM
      by_cases h0:z<0
      ·have hzn:=hsn h0
       obtain⟨m,hm⟩:∃m:Nat,-1-z=(m:Int):=⟨(-1-z).toNat,by omega⟩
       rw[hm]at hzn
       obtain⟨gb,ob,rfl,hgb3,hcb⟩:=HRX.out (by rw[Gm.best_len];omega)
       have km:=hcb m (by rw[Gm.best_len];omega)
       have d0:decide (z<0)=true:=decide_eq_true h0
       have dw:IntKind.i64.wrap (-1-z)=(m:Int):=by rw[IntWalk.i64_in _ (by omega)];exact hm
       have hdb:decide ((Gm.best G (Gm.hts G)).getD m 0<0)=Gm.tr (z<0∧¬Gm.Gn true G.rs (-1-z)):=by
        rw[Bool.eq_iff_iff,decide_eq_true_eq,Gm.tr_iff,Gm.best_neg HOK.out (by omega),hm]
        exact⟨fun h=>⟨h0,h⟩,fun h=>h.2⟩
       have HE3:=aA (hdb.trans HEM.out.symm)
       clear hdb HEM hcb hm h0 hzi hsn
       generalize (Gm.best G (Gm.hts G)).getD m 0=bm at *
       go_wp2
       go_roundw
       case rel=>exact⟨k+1,_,hlt,by go_num,rfl,HE3,HA2,HRX,HZ2,HW2⟩
       case measure=>simp[intOf];omega
      ·have d0:decide (z<0)=false:=decide_eq_false h0
       have HE3:Hid (false=Gm.emP G (l.take (k+1))):=aA (by rw[HEM.out];exact(Gm.tr_no.2 (fun h=>h0 h.1)).symm)
       clear HEM h0 hzi hsn
       go_wp2
       go_roundw
       case rel=>exact⟨k+1,false,hlt,by go_num,rfl,HE3,HA2,HRX,HZ2,HW2⟩
       case measure=>simp[intOf];omega
     ·have HE3:Hid (true=Gm.emP G (l.take (k+1))):=aA (by rw[HEM.out];rfl)
      clear HEM hzi hsn
      go_wp2
      go_roundw
      case rel=>exact⟨k+1,true,hlt,by go_num,rfl,HE3,HA2,HRX,HZ2,HW2⟩
      case measure=>simp[intOf];omega
   ·obtain rfl:k=l.length:=by omega
    rw[List.take_length]at HEb HK
    have HWE:Hid (Gm.wdE G l=if Gm.tr (Gm.Pr G l)=true then(if(Gm.ltree G l).length≤300∧(Gm.lword G l).length≤60 then 0 else 13) else 9):=aA (by unfold Gm.wdE;rw[if_pos ⟨HQ.out,HK.out⟩])
    cases b
    ·have hp:Gm.Pr G l:=Classical.byContradiction fun h=>absurd (Gm.tr_iff.2 h) (by have:=HEb.out;unfold Gm.emP at this;rw[←this];simp)
     have HE:=aA (HWE.out.trans (if_pos (Gm.tr_iff.2 hp)))
     have q0:=HW.out.c 0 _ rfl
     have q1:=HW.out.c 1 _ rfl
     have q2:=HW.out.c 2 _ rfl
     have q3:=HW.out.c 3 _ rfl
     have HSN:=aA (fun z hz=>Gm.has_sin (List.all_eq_true.1 HK.out z hz))
     have HSZ:=aA (fun(y:World) (hy:Below w.heap.size w y) (gS:Nat) (huS:UBQ 57 szc y gS (Gm.szLD G))=>zcY l (Gm.szLD G) A (some ⟨gS,0,none⟩) c G.ns.length G.ns.length B y.heap.size y (HR.out.below hy HB.out) (Nat.le_trans HB.out hy.size) (huS.rd0 zas huS.lt) (Nat.le_refl _) HIN.out (fun z hz h0=>by rw[Gm.szLD_len];exact HSN.out z hz h0) (Gm.szLD_le G) Gm.szLD_len.symm HL.out)
     rw[Gm.szLD_of HOK.out hp]at HSZ
     have hle1:=Gm.szCD_le (G:=G) (l:=l)
     have hle2:=Gm.szCD_le2 (G:=G) (l:=l)
     generalize Gm.szCD G l=s at *
     obtain⟨s1,s2⟩:=s
     simp only at hle1 hle2
     have HWW:=aA (fun(h300:(Gm.lword G l).length≤60) (x:World) (h:Below w.heap.size w x) (hr3:RdI x s3 A3 (Gm.best G (Gm.hts G))) (hs3:s3≤x.heap.size)=>zeQ _ G HOK.out HF.out _ l hp (Nat.le_refl _) HIN.out HL.out A A3 c c3 B B s3 x (HGG.out x h) (Nat.le_trans HB.out h.size) (HR.out.below h HB.out) (Nat.le_trans HB.out h.size) hr3 hs3 (by omega))
     clear hp HEb HK
     go_upto_region 13 with fail
     go_upto_region 14 with fail
     refine(H3.out _ HW.out.below).mono ?_;rintro _ w4 ⟨gS,rfl,_,huS,hb4⟩
     have HW4:=aA (HW.out.on hb4)
     have HR4:=aA (HR3.out.below hb4 HZ.out)
     have HZ4:=aA (Nat.le_trans HZ.out hb4.size)
     have HS4:=aA (HSZ.out w4 HW4.out.below gS huS)
     clear huS hb4 q0 q1 q2 q3 hd HSZ H3
     go_upto_region 14 with fail
     refine HS4.out.mono ?_;rintro _ w7 ⟨rfl,hb⟩
     obtain⟨w8,hw8⟩:∃y,y=w7.alloc (.cells #[.int .i64 (s1:Int),.int .i64 (s2:Int)] 57):=⟨_,rfl⟩
     have hb78:Below w7.heap.size w7 w8:=by rw[hw8];exact(Below.refl _ _).alloc (Nat.le_refl _) _
     have hbs:w8.heap[w7.heap.size]?=some (.cells #[.int .i64 (s1:Int),.int .i64 (s2:Int)] 57 (0,0)):=by rw[hw8];exact heap_alloc_new w7 _
     have hb48:=hb.trans (hb78.mono hb.size)
     have HW8:=aA (HW4.out.on hb48)
     have HR8:=aA (HR4.out.below hb48 HZ4.out)
     have HZ8:=aA (Nat.le_trans HZ4.out hb48.size)
     have x0:=HW8.out.c 0 _ rfl
     have x1:=HW8.out.c 1 _ rfl
     have x2:=HW8.out.c 2 _ rfl
     have x3:=HW8.out.c 3 _ rfl
     have lb8:w.heap.size<w8.heap.size:=HW8.out.size
     have y0:=cell_of_row w8 _ 0 _ _ _ hbs
     have y1:=cell_of_row w8 _ 1 _ _ _ hbs
     have ly:=(Array.getElem?_eq_some_iff.1 hbs).1
     clear hb hb78 hbs hb48 HS4
     go_upto_region 14 with fail
     rw[←hw8]
     clear hw8
     have hz1:decide ((300:Int)<(s1:Int))=decide (300<s1):=by rw[Bool.eq_iff_iff,decide_eq_true_eq,decide_eq_true_eq];omega
     have hz2:decide ((60:Int)<(s2:Int))=decide (60<s2):=by rw[Bool.eq_iff_iff,decide_eq_true_eq,decide_eq_true_eq];omega
     by_cases h1:s1≤300
     ·have d1:decide (300<s1)=false:=decide_eq_false (by omega)
      rw[d1]at hz1
      by_cases h2:s2≤60
      ·have d2:decide (60<s2)=false:=decide_eq_false (by omega)
       rw[d2]at hz2
       have HT0:Hid (Gm.wdE G l=0):=aA (by rw[HE.out,if_pos ⟨hle1.1 h1,hle2.1 h2⟩])
       have HTL:Hid (Gm.wdL G l=Gm.lword G l):=aA (by unfold Gm.wdL;rw[if_pos HT0.out])
       have HWX:=aA (HWW.out (hle2.1 h2) w8 HW8.out.below HR8.out HZ8.out)
       clear h1 h2 hle1 hle2 d1 d2 HWW
       go_wp2_with fail
       refine HWX.out.mono ?_;rintro _ wf ⟨v',rfl,ho,hbf⟩
       have HOF:Hid (aJ wf w8.heap.size v' (Gm.wdL G l)):=aA (by rw[HTL.out];exact ho)
       have HBF:=aA (HW8.out.below.trans (hbf.mono HW8.out.below.size))
       clear ho hbf
       go_wp2
       go_ret2
       exact aV.yes HT0.out HOF.out HBF.out
      ·have d2:decide (60<s2)=true:=decide_eq_true (by omega)
       rw[d2]at hz2
       have HT0:Hid (Gm.wdE G l=13):=aA (by rw[HE.out,if_neg (fun h=>h2 (hle2.2 h.2))])
       clear h1 h2 hle1 hle2 d1 d2 HWW
       go_wp2
       go_ret2
       exact aV.no HT0.out (Gm.wdL_no (by rw[HT0.out];decide)) HW8.out.below
     ·have d1:decide (300<s1)=true:=decide_eq_true (by omega)
      rw[d1]at hz1
      have HT0:Hid (Gm.wdE G l=13):=aA (by rw[HE.out,if_neg (fun h=>h1 (hle1.2 h.1))])
      clear h1 hle1 hle2 d1 HWW
      go_wp2
      go_ret2
      exact aV.no HT0.out (Gm.wdL_no (by rw[HT0.out];decide)) HW8.out.below
    ·have hp:¬Gm.Pr G l:=Gm.tr_iff.1 HEb.out.symm
     have HE:=aA (HWE.out.trans (if_neg (fun h=>hp (Gm.tr_iff.1 h))))
     clear hp
     go_wp2
     go_ret2
     exact aV.no HE.out (Gm.wdL_no (by rw[HE.out];decide)) HW.out.below
theorem zbS (v:Value) (G:Gm.Gr) (A:Option Addr) (c:Nat) (l:List Int) (w:World) (hg:aN w w.heap.size v G) (hf:Gm.Fit G) (hr:RdI w w.heap.size A l) (hin:∀z∈l,Gm.In z) :
  Calls Tryz.prog 5 #[v,.slice A l.length c] w fun e w'=>e=.returned (.bool true)∧Below w.heap.size w w':=by
 have HGG:=aA (fun(x:World) (h:Below w.heap.size w x)=>hg.below h (Nat.le_refl _))
 have HAL:=aA (fun(x:World)=>zaL x)
 have TG:=aA (fun(x:World) (h:Below w.heap.size w x)=>za7 v G w.heap.size x (HGG.out x h) h.size)
 have TA:=aA (fun(h50:l.length≤50) (x:World) (h:Below w.heap.size w x)=>zbV v G l A c w.heap.size x (HGG.out x h) hf h.size (hr.below h (Nat.le_refl _)) hin (by omega))
 have TB:=aA (fun(h50:l.length≤50) (x:World) (h:Below w.heap.size w x)=>ze6 v G l A c w.heap.size x (HGG.out x h) hf h.size (hr.below h (Nat.le_refl _)) hin (by omega))
 obtain⟨lst,hlst⟩:∃s,s=Gm.wdL G l:=⟨_,rfl⟩
 obtain⟨err,herr⟩:∃s,s=Gm.wdE G l:=⟨_,rfl⟩
 have HLL:Hid (lst.length≤9223372036854775807):=aA (by rw[hlst];exact Gm.wdL_len G l)
 rw[←hlst,←herr]at TA TB
 clear hlst herr
 obtain⟨A0,c0,A1,c1,A2,c2,rfl,_⟩:=hg
 have HQ0:=aA (One.start w #[.slice A0 G.ts.length c0,.slice A1 G.ns.length c1,.slice A2 G.rs.length c2,.int .i64 G.st])
 have HXC:=aA (fun(x:World) (h:One w #[.slice A0 G.ts.length c0,.slice A1 G.ns.length c1,.slice A2 G.rs.length c2,.int .i64 G.st] x)=>And.intro (h.c 0 _ rfl) (And.intro (h.c 1 _ rfl) (And.intro (h.c 2 _ rfl) (h.c 3 _ rfl))))
 clear hf
 go_enter Tryz.func5,Tryz.ntmps5
 go_wp2_with fail
 refine(HAL.out _).mono ?_;rintro _ w1 ⟨rfl,hb1⟩
 have HQ1:=aA (HQ0.out.on hb1)
 obtain⟨x0,x1,x2,x3⟩:=HXC.out w1 HQ1.out
 clear hb1
 cases hgr:Gm.great G with
 | true =>
  rw[hgr]at TG
  go_wp2_with fail
  refine(TG.out _ HQ1.out.below).mono ?_;rintro _ w2 ⟨rfl,hb2⟩
  have HQ2:=aA (HQ1.out.on hb2)
  clear hb2
  go_wp2
  go_ret
  exact⟨rfl,HQ2.out.below⟩
 | false =>
  rw[hgr]at TG
  clear hgr
  by_cases h50:50<l.length
  ·have d50:decide (50<l.length)=true:=decide_eq_true h50
   have d51:decide ((50:Int)<(l.length:Int))=true:=decide_eq_true (by omega)
   go_wp2_with fail
   refine(TG.out _ HQ1.out.below).mono ?_;rintro _ w2 ⟨rfl,hb2⟩
   have HQ2:=aA (HQ1.out.on hb2)
   clear hb2
   go_wp2
   go_ret
   exact⟨rfl,HQ2.out.below⟩
  have d50:decide (50<l.length)=false:=decide_eq_false h50
  have d51:decide ((50:Int)<(l.length:Int))=false:=decide_eq_false (by omega)
  have TA:=aA (TA.out (by omega))
  have TB:=aA (TB.out (by omega))
  clear h50
  go_upto_region 5 with fail
  refine(TG.out _ HQ1.out.below).mono ?_;rintro _ w2 ⟨rfl,hb2⟩
  have HQ2:=aA (HQ1.out.on hb2)
  clear x0 x1 x2 x3 hb2 TG
  obtain⟨x0,x1,x2,x3⟩:=HXC.out w2 HQ2.out
  have l1:w.heap.size<w2.heap.size:=HQ2.out.size
  go_upto_region 6 with fail
  refine(TA.out w2 HQ2.out.below).mono ?_;rintro _ w3 ⟨A3,c3,rfl,_,hr3,hb3⟩
  have HQ3:=aA (HQ2.out.on hb3)
  have HR3:=aA hr3
  clear x0 x1 x2 x3 l1 hr3 hb3
  obtain⟨x0,x1,x2,x3⟩:=HXC.out w3 HQ3.out
  have l1:w.heap.size<w3.heap.size:=HQ3.out.size
  go_upto_region 7 with fail
  refine(TB.out w3 HQ3.out.below).mono ?_;rintro _ w4 ⟨A4,c4,rfl,_,hr4,hb4⟩
  have HQ4:=aA (HQ3.out.on hb4)
  have HI4:=aA (zai A3 A4 c3 c4 lst.length lst w4 (HR3.out.up hb4) hr4 HLL.out rfl)
  have hee:(err==err)=true:=by simp
  clear x0 x1 x2 x3 l1 hr4 hb4
  go_wp2_with fail
  refine HI4.out.mono ?_;rintro _ w5 ⟨rfl,n5,hw5⟩
  have HQ5:Hid (One w #[.slice A0 G.ts.length c0,.slice A1 G.ns.length c1,.slice A2 G.rs.length c2,.int .i64 G.st] w5):=aA (by rw[hw5];exact HQ4.out.drewN _)
  clear hw5
  go_wp2
  go_ret
  exact⟨rfl,HQ5.out.below⟩
end Go.Proofs.YtcgclkndkahgaaaGreat
