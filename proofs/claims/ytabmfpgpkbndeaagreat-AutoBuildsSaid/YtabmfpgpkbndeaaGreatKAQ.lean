/- Part of the proofs over this program: RfBuild, WalkBuilds15. -/
import Derived.Test.YtabmfpgpkbndeaaGreatKAM
import Derived.Test.YtabmfpgpkbndeaaGreatKAO
import Derived.Test.YtabmfpgpkbndeaaGreatKAP
namespace Go.Proofs.YtabmfpgpkbndeaaGreat
set_option maxRecDepth 100000
set_option maxHeartbeats 40000000
open Go.RowKit
def EdO (qs:List QS) (es:List (List (Int×Int))):Prop:=(∀j (h:j<qs.length) (h2:j<es.length),(qs[j]).2.1=es[j])∧∀j (h:j<qs.length),es.length≤j→(qs[j]).2=([],none,0)
def EdI (qs:List QS) (es:List (List (Int×Int))):Prop:=(∀j (h:j<qs.length) (h2:j<es.length),(qs[j]).2.1=es[j])∧∀j (h:j<qs.length),es.length<j→(qs[j]).2=([],none,0)
theorem EdO.in {qs:List QS} {es:List (List (Int×Int))} (h:EdO qs es):EdI qs es:=⟨h.1,fun j hj hl=>h.2 j hj (by omega)⟩
theorem EdI.snoc {qs:List QS} {es:List (List (Int×Int))} (h:EdI qs es) (hn:es.length<qs.length) (k:List Au.It) (A:Option Addr) (c:Nat):EdI (qs++[bC k A c]) es:=by
 refine⟨fun j hj h2=>?_,fun j hj hl=>?_⟩
 ·have hjl:j<qs.length:=by omega
  rw[List.getElem_append_left hjl];exact h.1 j hjl h2
 ·by_cases hjl:j<qs.length
  ·rw[List.getElem_append_left hjl];exact h.2 j hjl hl
  ·obtain rfl:j=qs.length:=by rw[List.length_append,List.length_singleton]at hj;omega
   rw[List.getElem_append_right (Nat.le_refl _)]
   simp[bC]
theorem EdI.set {qs:List QS} {es:List (List (Int×Int))} (h:EdI qs es) (y:QS):EdI (qs.set es.length y) es:=by
 refine⟨fun j hj h2=>?_,fun j hj hl=>?_⟩
 ·rw[List.length_set]at hj
  rw[List.getElem_set_ne (by omega)];exact h.1 j hj h2
 ·rw[List.length_set]at hj
  rw[List.getElem_set_ne (by omega)];exact h.2 j hj hl
theorem EdI.out {qs:List QS} {es:List (List (Int×Int))} (h:EdI qs es) (hn:es.length<qs.length):EdO qs (es++[(qs[es.length]).2.1]):=by
 refine⟨fun j hj h2=>?_,fun j hj hl=>?_⟩
 ·by_cases hjl:j<es.length
  ·rw[List.getElem_append_left hjl];exact h.1 j hj hjl
  ·obtain rfl:j=es.length:=by rw[List.length_append,List.length_singleton]at h2;omega
   rw[List.getElem_append_right (Nat.le_refl _)]
   simp
 ·rw[List.length_append,List.length_singleton]at hl
  exact h.2 j hj (by omega)
theorem EdO.zip {qs:List QS} {es:List (List (Int×Int))} (h:EdO qs es) (hn:es.length=qs.length):qs.map zhJ=(aV qs).zip es:=by
 refine List.ext_getElem (by simp[aV,hn]) fun j h1 h2=>?_
 have hj:j<qs.length:=by simpa using h1
 rw[List.getElem_map,List.getElem_zip]
 unfold aV
 rw[List.getElem_map,←h.1 j hj (by omega)]
 rfl
theorem zhs {G:Gm.Gr} {cl:List Au.It} {p:List (List Au.It)×List (Int×Int)} {s:Int} {qs:List QS} (hp:aV qs=p.1) (hne:Au.mv G cl s≠[]):Au.edge G cl p s=if Au.fnd (aV qs) (Au.mv G cl s)<0 then(p.1++[Au.mv G cl s],p.2++[(s,(qs.length:Int))]) else(p.1,p.2++[(s,Au.fnd (aV qs) (Au.mv G cl s))]):=by
 unfold Au.edge
 rw[if_neg hne,hp]
 have e:p.1.length=qs.length:=by rw[←hp];unfold aV;rw[List.length_map]
 by_cases h:Au.fnd p.1 (Au.mv G cl s)<0
 ·rw[if_neg (by omega),if_pos h,e]
 ·rw[if_pos (by omega),if_neg h]
theorem zfe {k:List Au.It} {nm c:Nat} {A:Option Addr} (h:k.length=nm):∀(j:Nat) (u:Value),(stC (bC k A c))[j]?=some u→(#[.slice A nm c,.slice none 0 0]:Array Value)[j]?=some u:=fun j u hu=>by
 subst h
 match j,hu with
 | 0,hu=>exact hu
 | 1,hu=>exact hu
 | j+2,hu=>simp[stC]at hu
theorem zdx (v:Value) (G:Gm.Gr) (B:Nat) (w:World) (hg:aT w B v G) (hf:Gm.Fit G) (hB:B≤w.heap.size) :
  Calls Tryz.prog 18 #[v] w (zh4 G w):=by
 have HIS:=aA (fun y (h:Below w.heap.size w y)=>zf1 v G B y (hg.below h hB) hf (Nat.le_trans hB h.size))
 have HG:=aA hg
 have HF:=aA hf
 have HBW:=aA hB
 obtain⟨AT,cT,AN,cN,AR,cR,rfl,⟨hlT,hmT⟩,⟨hlN,hmN⟩,_⟩:=hg
 have HS0:=aA (aZ.start 26 w #[.slice AT G.ts.length cT,.slice AN G.ns.length cN,.slice AR G.rs.length cR,.int .i64 G.st])
 have g0:=HS0.out.c 0 _ rfl
 have g1:=HS0.out.c 1 _ rfl
 have g2:=HS0.out.c 2 _ rfl
 have g3:=HS0.out.c 3 _ rfl
 clear hf hB
 cases hr:Gm.isB G
 ·have HQ:=aA (Au.bld_no hr)
  rw[hr]at HIS
  clear hr
  go_enter Tryz.func18,Tryz.ntmps18
  go_wp2_with fail
  refine(HIS.out _ HS0.out.below).mono ?_;rintro _ w2 ⟨rfl,hb⟩
  have HB:=aA (HS0.out.on hb)
  clear hb g0 g1 g2 g3
  go_wp2
  go_ret2
  exact zh4.nil HQ.out HB.out.below
 ·have HR:=aA hr
  have HOK:=aA (Gm.right_ok.1 (Gm.isB_right hr))
  rw[hr]at HIS
  have htn:=(Gm.terms_iff G.ts).1 HOK.out.t
  have hnn:=(Gm.nons_iff G).1 HOK.out.n
  have htI:(G.ts.length:Int)≤24:=by omega
  have hnI:(G.ns.length:Int)≤16:=by omega
  have HTN:Hid (G.ts.length≤24∧G.ns.length≤16):=aA (by omega)
  clear hr htn hnn
  go_enter Tryz.func18,Tryz.ntmps18
  go_wp2_with fail
  refine(HIS.out _ HS0.out.below).mono ?_;rintro _ w2 ⟨rfl,hb⟩
  have HB:=aA (HS0.out.on hb)
  clear hb g0 g1 g2 g3
  obtain⟨w3,hw3⟩:∃y,y=w2.alloc (.cells #[.int .i64 (-1),.int .i64 0] 33):=⟨_,rfl⟩
  have hs3:w3.heap.size=w2.heap.size+1:=by rw[hw3];simp
  have b3:Below w2.heap.size w2 w3:=by rw[hw3];exact(Below.refl _ _).alloc (Nat.le_refl _) _
  have c3:w3.heap[w2.heap.size]?=some (.cells #[.int .i64 (-1),.int .i64 0] 33 (0,0)):=by rw[hw3];exact heap_alloc_new w2 _
  obtain⟨w4,hw4⟩:∃y,y=w3.alloc (.cells #[.slice (some ⟨w2.heap.size,0,none⟩) 1 1,.slice none 0 0] 50):=⟨_,rfl⟩
  have hs4:w4.heap.size=w2.heap.size+2:=by rw[hw4];simp[hs3]
  have b4:Below w3.heap.size w3 w4:=by rw[hw4];exact(Below.refl _ _).alloc (Nat.le_refl _) _
  have c4:w4.heap[w2.heap.size+1]?=some (.cells #[.slice (some ⟨w2.heap.size,0,none⟩) 1 1,.slice none 0 0] 50 (0,0)):=by rw[hw4,←hs3];exact heap_alloc_new w3 _
  have hz2:=HB.out.size
  have HB4:=aA ((HB.out.on b3).on (b4))
  have HST4:Hid (za1 w4 (w.heap.size+1) w4.heap.size w4.heap.size (.slice (some ⟨w2.heap.size+1,0,none⟩) 1 1) [bC [(-1,0)] (some ⟨w2.heap.size,0,none⟩) 1]):=aA ⟨⟨by simp[stC],.inr ⟨w2.heap.size+1,1,_,rfl,by omega,c4,Nat.le_refl _,by unfold maxLen;omega,by simp,by simp[stC,bC,qpC]⟩⟩,fun q hq=>by
   rw[List.mem_singleton.1 hq]
   refine⟨⟨Nat.le_refl _,by simp[bC],fun _=>⟨w2.heap.size,_,rfl,by omega,by omega,aE b4 c3,fun i hi j u hu=>?_⟩⟩,⟨Nat.zero_le _,Nat.zero_le _,bF.nil _ _ _ _ _⟩⟩
   have:i=0:=by simp[bC]at hi;omega
   subst this
   match j,hu with
   | 0,hu=>exact hu
   | 1,hu=>exact hu
   | j+2,hu=>simp[bC,prF]at hu⟩
  clear b3 c3 b4 c4 hz2
  go_upto_region 4 with fail
  rw[←hw3,←hw4]
  clear hw3 hw4 hs4 hs3
  have HI6:Hid (Au.Inv G [[(-1,0)]] []):=aA (Au.Inv.start G)
  have HRU6:Hid (Au.run G (302-([]:List (List (Int×Int))).length) [[(-1,0)]] []=Au.bld G):=aA rfl
  have HKA6:Hid (aV [bC [((-1:Int),(0:Int))] (some ⟨w2.heap.size,0,none⟩) 1]=[[(-1,0)]]):=aA rfl
  have HE6:Hid (EdO [bC [((-1:Int),(0:Int))] (some ⟨w2.heap.size,0,none⟩) 1] []):=aA ⟨fun j _ h=>absurd h (Nat.not_lt_zero _),fun j hj _=>by
   have:j=0:=by simp at hj;omega
   subst this;rfl⟩
  generalize [bC [((-1:Int),(0:Int))] (some ⟨w2.heap.size,0,none⟩) 1]=qs0 at *
  obtain⟨bs,hbs⟩:∃bs,bs=w2.heap.size+1:=⟨_,rfl⟩
  rw[←hbs]at HST4
  rw[←hbs]
  go_wp2
  go_loopw [4,5] (fun vo vi wr=>∃(ks:List (List Au.It)) (es:List (List (Int×Int))) (qs:List QS),vi=.int .i64 (es.length:Nat)∧ks.length≤300∧es.length≤ks.length∧Hid (Au.Inv G ks es)∧Hid (Au.run G (302-es.length) ks es=Au.bld G)∧Hid (aV qs=ks)∧Hid (EdO qs es)∧Hid (za1 wr (w.heap.size+1) wr.heap.size wr.heap.size vo qs)∧Hid (aZ 26 w #[.slice AT G.ts.length cT,.slice AN G.ns.length cN,.slice AR G.rs.length cR,.int .i64 G.st] wr)) (fun _ vi _=>301-(intOf vi).toNat)
  case atStart=>exact⟨[[(-1,0)]],[],qs0,rfl,by simp,by simp,HI6,HRU6,HKA6,HE6,HST4,HB4⟩
  case round =>
   obtain⟨ks,es,qs,rfl,hk3,hle,HI,HRU,HKA,HE,HST,HW⟩:=hrel
   have hql:qs.length=ks.length:=by rw[←HKA.out];unfold aV;rw[List.length_map]
   obtain⟨Ao,co,rfl,_,_,_⟩:=aI.form HST.out.1 zae
   by_cases hlt:es.length<ks.length
   ·have hlq:es.length<qs.length:=by omega
    have HQL:=aA hql
    clear hql
    have hlqI:((es.length:Nat):Int)<((qs.length:Nat):Int):=by omega
    obtain⟨gS,cS,he,hlc,hmc,hbg⟩:=aI.addr HST.out.1 (by omega)
    injection he with he1 he2 he3
    subst he1
    clear he2 he3
    have k0:wr.cell? ⟨gS,es.length*2,none⟩=some (.slice (qs[es.length]).1.2.1 (qs[es.length]).1.1.length (qs[es.length]).1.2.2):=aI.cellAt HST.out.1 zae es.length 0 hlq _ rfl
    have hgl:=aI.lt HST.out.1
    have hke:ks.getD es.length []=(qs[es.length]).1.1:=by
     rw[←HKA.out];unfold aV;rw[List.getD_eq_getElem?_getD,List.getElem?_map,List.getElem?_eq_getElem hlq];rfl
    have hkm:(qs[es.length]).1.1∈ks:=by
     rw[←hke,List.getD_eq_getElem?_getD,List.getElem?_eq_getElem hlt]
     exact List.getElem_mem hlt
    have hit:=HI.out.it _ hkm
    have hQ:=HST.out.2 _ (List.getElem_mem hlq)
    have HCL:=aA (fun(y:World) (h:Below wr.heap.size wr y)=>zcE _ G B (qs[es.length]).1.1 (qs[es.length]).1.2.1 (qs[es.length]).1.2.2 wr.heap.size y (HG.out.below (HW.out.on h).below HBW.out) HF.out HOK.out (Nat.le_trans HBW.out (HW.out.on h).below.size) (hQ.1.2.2.rd.below h (Nat.le_refl _)) h.size hit.2 (Nat.le_trans (Au.kernel_le HOK.out HOK.out.r40 HI.out hkm) (by omega)))
    have HON:Hid (Au.one G ks es.length=Au.edges G (Au.clo G (qs[es.length]).1.1) (ks,[]) (Au.syms G)):=aA (by unfold Au.one;rw[hke])
    have HRS:=aA (Au.run_step (G:=G) hlt hk3)
    have HIN:=aA (HI.out.step hlt)
    have HCI:Hid (∀x∈Au.clo G (qs[es.length]).1.1,Au.isI G x=true):=aA (fun x hx=>Au.clo_is hx)
    have HCR:=aA (Au.clo_srt G (qs[es.length]).1.1)
    have HCN:Hid ((Au.clo G (qs[es.length]).1.1).length≤287):=aA (Au.clo_le2 HOK.out HOK.out.r40 _)
    have HN0:Hid ((qs[es.length]).2=([],none,0)):=aA (HE.out.2 _ hlq (Nat.le_refl _))
    generalize (qs[es.length]).1.1=k at *
    generalize (qs[es.length]).1.2.1=Ak at *
    generalize (qs[es.length]).1.2.2=ck at *
    clear hke hkm hit hQ hlc hmc
    have z0:∀z:Calm.On wr.heap.size wr,z.1.cell? ⟨w.heap.size,0,none⟩=some (.slice AT G.ts.length cT):=fun z=>(HW.out.on z.2).c 0 _ rfl
    have z1:∀z:Calm.On wr.heap.size wr,z.1.cell? ⟨w.heap.size,1,none⟩=some (.slice AN G.ns.length cN):=fun z=>(HW.out.on z.2).c 1 _ rfl
    have z2:∀z:Calm.On wr.heap.size wr,z.1.cell? ⟨w.heap.size,2,none⟩=some (.slice AR G.rs.length cR):=fun z=>(HW.out.on z.2).c 2 _ rfl
    have z3:∀z:Calm.On wr.heap.size wr,z.1.cell? ⟨w.heap.size,3,none⟩=some (.int .i64 G.st):=fun z=>(HW.out.on z.2).c 3 _ rfl
    have q0:∀z:Calm.On wr.heap.size wr,z.1.cell? ⟨gS,es.length*2,none⟩=some (.slice Ak k.length ck):=fun z=>(z.2.cell (p:=⟨gS,es.length*2,none⟩) hgl).trans k0
    have HS0:Hid (∃z:Calm.On wr.heap.size wr,wr.drew=z.1):=aA ⟨⟨wr.drew,aB (Below.refl _ _) 1⟩,rfl⟩
    clear k0 hgl
    go_wp2_with fail
    refine CalmN.region_tree (fun x=>∃z:Calm.On wr.heap.size wr,x=z.1) (.one [0,1,2,3,4,5] 6 (.fin [7])) (by kernel_rfl) (by kernel_rfl) (fun _ _ d _ _ h=>by cases d <;> exact h) HS0.out ?_
    simp only[CalmN.wpT,CalmN.wpSt,CalmN.pickOps,List.getElem?_toArray,List.getElem?_cons_zero,List.getElem?_cons_succ]
    repeat (go_big_quiet_step (fail))
    refine wpQuiet_nil ?_
    intro KK hKK
    rw[if_pos (by rfl)]
    go_wp2_with fail
    refine(HCL.out wr.drew (aB (Below.refl _ _) 1)).mono ?_;rintro _ w6 ⟨v6,rfl,ho6,hb6⟩
    have hb6:Below wr.heap.size wr w6:=(aB (Below.refl _ wr) 1).trans hb6
    have HS6:Hid (∃z:Calm.On wr.heap.size wr,w6=z.1):=aA ⟨⟨w6,hb6⟩,rfl⟩
    obtain⟨Ac,cc,rfl,_,_,_⟩:=aI.form ho6 aG
    have HRP:=aA (aI.rowP ho6)
    have HW6:=aA (HW.out.on hb6)
    have hst6:=HST.out.below hb6
    have HSA:=aA (OwnSa.of (n:=es.length) (w:=w6) (base:=w.heap.size+1) (NE:=w6.heap.size) ⟨hst6.1,fun q hq=>(hst6.2 q hq).more hb6.size hb6.size⟩ hlq HN0.out)
    have HED:=aA (HE.out.in)
    have HBE:Hid (w.heap.size+1≤w6.heap.size):=aA HW6.out.size
    generalize Au.clo G k=cl at *
    clear ho6 hb6 hst6 z0 z1 z2 z3 q0
    have hclI:(cl.length:Int)≤287:=by have:=HCN.out;omega
    obtain⟨nn,hnn⟩:∃nn,nn=G.ts.length+G.ns.length:=⟨_,rfl⟩
    have HNN:=aA hnn
    have HN40:Hid (nn≤40):=aA (by have:=HTN.out;omega)
    have hnw:IntKind.i64.wrap ((G.ts.length:Int)+(G.ns.length:Int))=((nn:Nat):Int):=by rw[IntWalk.i64_in _ (by omega),hnn];omega
    have hnI40:((nn:Nat):Int)≤40:=by have:=HN40.out;omega
    clear hnn
    have HLT:=aA hlt
    have HK3:=aA hk3
    go_wp2_with fail
    refine hKK _ _ HS6.out _ (fun _ h=>h) HS6.out ?_
    clear hKK HS6 HS0
    repeat (go_big_quiet_step (fail))
    refine wpQuiet_nil ?_
    go_wp2
    go_loopw [4,7] (fun vo vi wy=>∃(i:Nat) (qs2:List QS),i≤nn∧vi=.int .i64 i∧es.length<qs2.length∧qs2.length≤300+i∧Hid (aV qs2=(Au.edges G cl (ks,[]) ((Au.syms G).take i)).1)∧Hid (EdI qs2 es)∧Hid (OwnSa wy (w.heap.size+1) w6.heap.size es.length vo qs2 (Au.edges G cl (ks,[]) ((Au.syms G).take i)).2)∧Hid ((Au.edges G cl (ks,[]) ((Au.syms G).take i)).2.length≤i)∧Hid (bF 33 wy 0 wy.heap.size Ac cl)∧Hid (aZ 26 w #[.slice AT G.ts.length cT,.slice AN G.ns.length cN,.slice AR G.rs.length cR,.int .i64 G.st] wy)∧Hid (w6.heap.size≤wy.heap.size)) (fun _ vi _=>nn-(intOf vi).toNat)
    case atStart=>exact⟨0,qs,Nat.zero_le _,rfl,hlq,by have:=HQL.out;omega,HKA,HED,HSA,aA (by simp[Au.edges]),aA (HRP.out.less (Nat.zero_le _)),HW6,aA (Nat.le_refl _)⟩
    case round =>
     obtain⟨i,qs2,hi,rfl,hl2,hl3,HKA2,HED2,HSA2,HLE2,HRP2,HW2,HZ2⟩:=hrel
     rename World=>wy
     obtain⟨A2,c2,rfl,_,_,_⟩:=aI.form HSA2.out.o zae
     have x0:=HW2.out.c 0 _ rfl
     have x1:=HW2.out.c 1 _ rfl
     have x2:=HW2.out.c 2 _ rfl
     have x3:=HW2.out.c 3 _ rfl
     by_cases hin:i<nn
     ·have HSY:=aA (fun(y:World) (h:Below wy.heap.size wy y)=>zdX _ G B i y (HG.out.below (HW2.out.on h).below HBW.out) (by have:=HN40.out;omega) (by omega))
      obtain⟨s,hs⟩:∃s,s=(if(i:Int)<G.ts.length then(i:Int) else -1-((i:Int)-G.ts.length)):=⟨_,rfl⟩
      have hsy:=Au.syms_at (G:=G) (i:=i) (by have:=HNN.out;omega)
      rw[←hs]at HSY hsy
      have HTK:Hid (Au.edges G cl (ks,[]) ((Au.syms G).take (i+1))=Au.edge G cl (Au.edges G cl (ks,[]) ((Au.syms G).take i)) s):=aA (by
       obtain⟨hl,e⟩:=List.getElem?_eq_some_iff.1 hsy
       rw[List.take_succ_eq_append_getElem hl,e,Au.edges_snoc])
      have HMV:=aA (fun(y:World) (h:Below wy.heap.size wy y)=>ze9 _ G B cl Ac cc wy.heap.size s y (HG.out.below (HW2.out.on h).below HBW.out) HF.out HOK.out (Nat.le_trans HBW.out (HW2.out.on h).below.size) (HRP2.out.rd.below h (Nat.le_refl _)) h.size HCI.out HCR.out (by have:=HCN.out;omega))
      have HML:=aA (Au.mv_le G cl s)
      have HPL:Hid ((Au.edges G cl (ks,[]) ((Au.syms G).take i)).2.length≤1000):=aA (by have:=HLE2.out;have:=HN40.out;omega)
      have hinI:((i:Nat):Int)<((nn:Nat):Int):=by omega
      clear hs hsy
      generalize Au.edges G cl (ks,[]) ((Au.syms G).take i)=p at *
      go_wp2_with fail
      refine(HSY.out wy (Below.refl _ _)).mono ?_;rintro _ w7 ⟨rfl,hb7⟩
      have HB7:=aA hb7
      have y0:=(HW2.out.on hb7).c 0 _ rfl
      have y1:=(HW2.out.on hb7).c 1 _ rfl
      have y2:=(HW2.out.on hb7).c 2 _ rfl
      have y3:=(HW2.out.on hb7).c 3 _ rfl
      clear hb7 x0 x1 x2 x3
      go_wp2_with fail
      refine(HMV.out w7 HB7.out).mono ?_;rintro _ w8 ⟨v8,rfl,ho8,hb8⟩
      have HB8:Hid (Below wy.heap.size wy w8):=aA (HB7.out.trans (hb8.mono HB7.out.size))
      obtain⟨A8,c8,rfl,hl8,hm8,hrd8⟩:=aI.form ho8 aG
      have HW8:=aA (HW2.out.on HB8.out)
      have HS8:=aA (HSA2.out.below HB8.out)
      have HRP8:Hid (bF 33 w8 0 w8.heap.size Ac cl):=aA ((HRP2.out.keep fun g cur hg hc=>(HB8.out.block g hg).trans hc).more HB8.out.size)
      have HZ8:Hid (w6.heap.size≤w8.heap.size):=aA (Nat.le_trans HZ2.out HB8.out.size)
      clear y0 y1 y2 y3
      by_cases hmv:Au.mv G cl s=[]
      ·have HE:Hid (Au.edge G cl p s=p):=aA (by unfold Au.edge;rw[if_pos hmv])
       have hmz:(((Au.mv G cl s).length:Int)==0)=true:=by rw[hmv];rfl
       clear ho8 hb8 hl8 hm8 hrd8 hmv
       generalize (Au.mv G cl s).length=nm at *
       go_wp2
       go_roundw
       case rel=>exact⟨i+1,qs2,hin,by go_num,hl2,by omega,aA (by rw[HTK.out,HE.out];exact HKA2.out),HED2,aA (by rw[HTK.out,HE.out];exact HS8.out),aA (by rw[HTK.out,HE.out];have:=HLE2.out;omega),HRP8,HW8,HZ8⟩
       case measure=>simp[intOf];omega
      ·have hmp:0<(Au.mv G cl s).length:=List.length_pos_iff.2 hmv
       have hmz:(((Au.mv G cl s).length:Int)==0)=false:=by rw[beq_eq_false_iff_ne];omega
       have HER:=aA (zhs (qs:=qs2) HKA2.out hmv)
       have hmap:(qs2.map zhJ).map (·.1)=aV qs2:=by unfold aV zhJ;rw[List.map_map];rfl
       have hlen2:(qs2.map zhJ).length=qs2.length:=List.length_map _
       have HRD8:=aA hrd8
       have HFI:=aA (zf2 (qs2.map zhJ) (Au.mv G cl s) A2 A8 c2 c8 w8.heap.size w8 (HS8.out.rd HZ8.out) hrd8 (Nat.le_refl _) (by rw[hlen2];omega) (fun x hx=>by
        obtain⟨q,hq,rfl⟩:=List.mem_map.1 hx
        obtain⟨j,hj,rfl⟩:=List.getElem_of_mem hq
        have:=(HS8.out.k j hj)
        exact Nat.le_trans this.1 this.2.1))
       rw[hlen2,hmap]at HFI
       have HQP:Hid (zgM 33 w8 (w.heap.size+1) w8.heap.size (Au.mv G cl s,A8,c8)):=aA ⟨hl8,by unfold maxLen at hm8;exact Nat.le_trans hm8 (by omega),(aI.rowP ho8).less (Nat.le_trans HW2.out.size HB7.out.size)⟩
       clear ho8 hb8 hl8 hm8 hrd8 hmv hmp hmap hlen2
       by_cases hfn:Au.fnd (aV qs2) (Au.mv G cl s)<0
       ·have HE:=aA HER.out
        rw[if_pos hfn]at HE
        generalize Au.fnd (aV qs2) (Au.mv G cl s)=fz at *
        generalize hnv:(Au.mv G cl s).length=nm at *
        have HNV:=aA hnv
        clear hnv
        go_wp2_with fail
        refine HFI.out.mono ?_;rintro _ wf ⟨rfl,hbf⟩
        have HSf:=aA (HS8.out.below hbf)
        have HWf:=aA (HW8.out.on hbf)
        have HQf:=aA (HQP.out.keep (N':=wf.heap.size) (fun g cur _ hc=>(hbf.block g (Array.getElem?_eq_some_iff.1 hc).1).trans hc) hbf.size)
        have HRPf:Hid (bF 33 wf 0 wf.heap.size Ac cl):=aA ((HRP8.out.keep fun g cur hg hc=>(hbf.block g hg).trans hc).more hbf.size)
        have HZf:Hid (w6.heap.size≤wf.heap.size):=aA (Nat.le_trans HZ8.out hbf.size)
        clear hbf
        obtain⟨gO,cO,heO,_,_,hbgO⟩:=aI.addr HSf.out.o (by omega)
        injection heO with heO1 heO2 heO3
        subst heO1
        clear heO2 heO3
        have HOf:=aA (HSf.out.o.alloc (.cells #[.slice A8 nm c8,.slice none 0 0] 50))
        have HNEf:=aA (heap_alloc_new wf (.cells #[.slice A8 nm c8,.slice none 0 0] 50))
        have HSfa:=aA (HSf.out.below ((Below.refl wf.heap.size wf).alloc (Nat.le_refl _) (.cells #[.slice A8 nm c8,.slice none 0 0] 50)))
        have HWfa:=aA (HWf.out.alloc (.cells #[.slice A8 nm c8,.slice none 0 0] 50))
        have HQfa:=aA (HQf.out.keep (w':=wf.alloc (.cells #[.slice A8 nm c8,.slice none 0 0] 50)) (N':=(wf.alloc (.cells #[.slice A8 nm c8,.slice none 0 0] 50)).heap.size) (fun g cur hgN hc=>(Below.heap_alloc wf _ g hgN).trans hc) (by simp))
        have HRfa:Hid (bF 33 (wf.alloc (.cells #[.slice A8 nm c8,.slice none 0 0] 50)) 0 wf.heap.size Ac cl):=aA (HRPf.out.keep fun g cur hg hc=>(Below.heap_alloc wf _ g hg).trans hc)
        have HLQ2:Hid (qs2.length≤1000):=aA (by have:=HN40.out;omega)
        have HL23:Hid (es.length<qs2.length):=aA hl2
        have HL33:Hid (qs2.length≤300+i):=aA hl3
        go_upto_region 18 with(at_builtin;refine zcj (f:=stC) rfl (.tmp 59) (.tmp 62) _ rfl Tryz.underlying38 _ 48 zhQ (by decide) (by decide) (by decide) zae zfF (w.heap.size+1) _ qs2 rfl HOf.out _ _ (bC (Au.mv G cl s) A8 c8) rfl (fun j u hu=>(cell_of_row _ wf.heap.size j _ _ _ HNEf.out).trans (zfe HNV.out j u hu)) (by have:=HLQ2.out;omega) HWfa.out.size ?_;intro vX wX hoX0 hgX0;obtain⟨AX,cX0,hvX,_,_,_⟩:=aI.form hoX0 zae;generalize hlx:(qs2++[bC (Au.mv G cl s) A8 c8]).length=lX at hvX;subst hvX;have HLNX:=aA hlx;clear hlx)
        have HSX:=aA (HSfa.out.snoc hoX0 hgX0 HQfa.out)
        have HWX:Hid (aZ 26 w #[.slice AT G.ts.length cT,.slice AN G.ns.length cN,.slice AR G.rs.length cR,.int .i64 G.st] wX):=aA (Below.grown HWfa.out hgX0 HWfa.out.size (fun k e=>(World.ownsRow.lt HOf.out k e).1))
        have HRX:Hid (bF 33 wX 0 wX.heap.size Ac cl):=aA ((HRfa.out.keep fun g cur hg hc=>aQ HOf.out hgX0 hc fun cur=>aO (by decide)).more (by have:=hgX0.size;simp at this;omega))
        have HZX:Hid (w6.heap.size≤wX.heap.size):=aA (by have:=hgX0.size;simp at this;have:=HZf.out;omega)
        have HLX:es.length<(qs2++[bC (Au.mv G cl s) A8 c8]).length:=by have:=HL23.out;rw[List.length_append];omega
        have HEDX:=aA (HED2.out.snoc HL23.out (Au.mv G cl s) A8 c8)
        have HKX:Hid (aV (qs2++[bC (Au.mv G cl s) A8 c8])=p.1++[Au.mv G cl s]):=aA (by rw[←HKA2.out];unfold aV;rw[List.map_append];rfl)
        have HLL3:Hid ((qs2++[bC (Au.mv G cl s) A8 c8]).length≤300+(i+1)):=aA (by rw[List.length_append,List.length_singleton];have:=HL33.out;omega)
        obtain rfl:=HLNX.out
        clear hoX0 hgX0 HLNX hl2 hl3
        generalize qs2++[bC (Au.mv G cl s) A8 c8]=qsX at *
        have hl3:=HLL3.out
        have htn:Hid (es.length<qsX.length):=aA HLX
        obtain⟨hnX,hesX,hoX⟩:=HSX.out.a
        obtain⟨Aee,cee,hee,_,_,_⟩:=aI.form hoX aG
        obtain⟨gX,cX,heX,_,_,hbgX⟩:=aI.addr HSX.out.o (by have:=htn.out;omega)
        injection heX with heX1 heX2 heX3
        subst heX1
        clear heX2 heX3
        have e0:wX.cell? ⟨gX,es.length*2+1,none⟩=some (.slice Aee p.2.length cee):=by
         rw[←hee];exact aI.cellAt HSX.out.o zae es.length 1 hnX _ rfl
        obtain⟨curX,hcurX⟩:∃cur,wX.heap[gX]?=some (.cells cur 50 (0,0)):=by
         rcases HSX.out.o.2 with⟨e,_⟩|⟨g2,cap,cur,e,_,hgg,_⟩
         ·cases e
         ·injection e with e _ _
          injection e with e
          injection e with e
          subst e
          exact⟨cur,hgg⟩
        have HCU:=aA ((cell_of_row wX gX (es.length*2+1) _ _ _ hcurX).symm.trans e0)
        rw[hee]at hoX
        have HOX:=aA (hoX.alloc (.cells #[.int .i64 s,.int .i64 (qs2.length:Int)] 52))
        have HCX:=aA ((Below.heap_alloc wX (.cells #[.int .i64 s,.int .i64 (qs2.length:Int)] 52) gX (Array.getElem?_eq_some_iff.1 hcurX).1).trans hcurX)
        have HNEW:=aA (heap_alloc_new wX (.cells #[.int .i64 s,.int .i64 (qs2.length:Int)] 52))
        have HSXa:=aA (HSX.out.below ((Below.refl wX.heap.size wX).alloc (Nat.le_refl _) (.cells #[.int .i64 s,.int .i64 (qs2.length:Int)] 52)))
        have HWXa:=aA (HWX.out.alloc (.cells #[.int .i64 s,.int .i64 (qs2.length:Int)] 52))
        have HZXa:Hid (w6.heap.size≤(wX.alloc (.cells #[.int .i64 s,.int .i64 (qs2.length:Int)] 52)).heap.size):=aA (by have:=HZX.out;simp;omega)
        have HRXa:Hid (bF 33 (wX.alloc (.cells #[.int .i64 s,.int .i64 (qs2.length:Int)] 52)) 0 wX.heap.size Ac cl):=aA (HRX.out.keep fun g cur hg hc=>(Below.heap_alloc wX _ g hg).trans hc)
        have HEE:=aA hee
        have HES:=aA hesX
        have HNX:=aA hnX
        have hqI:((es.length:Nat):Int)<((qsX.length:Nat):Int):=by have:=htn.out;omega
        clear hesX hoX hcurX hee
        go_wp2_with (at_builtin;refine zcj (f:=prF) rfl (.tmp 70) (.tmp 74) _ rfl Tryz.underlying48 _ 16 zgi (by decide) (by decide) (by decide) aG zaI w6.heap.size _ p.2 rfl HOX.out _ _ (s,(qs2.length:Int)) rfl (zb6 (s,(qs2.length:Int)) _ _ HNEW.out) (by have:=HPL.out;omega) HZXa.out ?_;intro v9 w9 ho9 hg9;obtain⟨A9,c9,hv9,_,_,_⟩:=aI.form ho9 aG;generalize hln:(p.2++[(s,(qs2.length:Int))]).length=ln at hv9;subst hv9;have HLN9:=aA hln;clear hln;have hc9:=aQ HOX.out hg9 HCX.out (fun cur=>aO (by decide));have e9:=(cell_of_row w9 gX (es.length*2+1) _ _ _ hc9).trans HCU.out;have f9:=frozen_of_row w9 gX (es.length*2+1) _ _ hc9;have l9:=(Array.getElem?_eq_some_iff.1 hc9).1)
        have HSY9:=aA (HSXa.out.edge HNX.out ho9 (by rw[HLN9.out]) (by rw[HEE.out];exact hg9))
        have hgz:=hg9.size
        have hsz9:(w9.setCell ⟨gX,es.length*2+1,none⟩ (.slice A9 ln c9)).heap.size=w9.heap.size:=by simp
        have HW9:Hid (aZ 26 w #[.slice AT G.ts.length cT,.slice AN G.ns.length cN,.slice AR G.rs.length cR,.int .i64 G.st] (w9.setCell ⟨gX,es.length*2+1,none⟩ (.slice A9 ln c9))):=aA (Below.setCell (Below.grown HWXa.out hg9 HWXa.out.size (fun k e=>Nat.le_trans HBE.out (World.ownsRow.lt HOX.out k e).1)) hbgX _)
        have HR9:Hid (bF 33 (w9.setCell ⟨gX,es.length*2+1,none⟩ (.slice A9 ln c9)) 0 (w9.setCell ⟨gX,es.length*2+1,none⟩ (.slice A9 ln c9)).heap.size Ac cl):=aA ((HRXa.out.keep fun g cur hg hc=>(Below.heap_setCell w9 ⟨gX,es.length*2+1,none⟩ _ g (fun e=>by
         have e:g=gX:=e
         rw[e,HCX.out]at hc
         injection hc with hc
         exact aO (by decide) hc)).trans (aQ HOX.out hg9 hc fun cur=>aO (by decide))).more (by rw[hsz9];simp at hgz;omega))
        have HZ9:Hid (w6.heap.size≤(w9.setCell ⟨gX,es.length*2+1,none⟩ (.slice A9 ln c9)).heap.size):=aA (by rw[hsz9];exact Nat.le_trans HZXa.out hgz)
        have HLS:Hid ((qsX.set es.length ((qsX[es.length]).1,(p.2++[(s,(qs2.length:Int))],A9,c9))).length=qsX.length):=aA List.length_set
        have HKS:Hid (aV (qsX.set es.length ((qsX[es.length]).1,(p.2++[(s,(qs2.length:Int))],A9,c9)))=aV qsX):=aA (by
         unfold aV
         rw[List.map_set]
         refine List.ext_getElem? fun j=>?_
         rw[List.getElem?_set]
         by_cases hij:es.length=j
         ·subst hij
          rw[if_pos rfl,if_pos (by simpa using hnX),List.getElem?_map,List.getElem?_eq_getElem hnX];rfl
         ·rw[if_neg hij])
        have HEDS:Hid (EdI (qsX.set es.length ((qsX[es.length]).1,(p.2++[(s,(qs2.length:Int))],A9,c9))) es):=aA (HEDX.out.set _)
        have HLE9:Hid ((p.2++[(s,(qs2.length:Int))]).length≤i+1):=aA (by have:=HLE2.out;rw[List.length_append,List.length_singleton];omega)
        rw[←HLS.out]
        generalize qsX.set es.length ((qsX[es.length]).1,(p.2++[(s,(qs2.length:Int))],A9,c9))=qs9 at *
        clear ho9 hg9 hc9 e9 f9 l9 e0 hgz hsz9
        go_roundw
        case rel=>exact⟨i+1,qs9,hin,by go_num,by rw[HLS.out];exact htn.out,by rw[HLS.out];omega,aA (by rw[HTK.out,HE.out,HKS.out];exact HKX.out),HEDS,aA (by rw[HTK.out,HE.out,HLS.out];exact HSY9.out),aA (by rw[HTK.out,HE.out];exact HLE9.out),HR9,HW9,HZ9⟩
        case measure=>simp[intOf];omega
       ·have HE:=aA HER.out
        rw[if_neg hfn]at HE
        generalize Au.fnd (aV qs2) (Au.mv G cl s)=fz at *
        generalize (Au.mv G cl s).length=nm at *
        go_wp2_with fail
        refine HFI.out.mono ?_;rintro _ wf ⟨rfl,hbf⟩
        have HSX:=aA (HS8.out.below hbf)
        have HWX:=aA (HW8.out.on hbf)
        have HRX:Hid (bF 33 wf 0 wf.heap.size Ac cl):=aA ((HRP8.out.keep fun g cur hg hc=>(hbf.block g hg).trans hc).more hbf.size)
        have HZX:Hid (w6.heap.size≤wf.heap.size):=aA (Nat.le_trans HZ8.out hbf.size)
        have HLX:es.length<qs2.length:=hl2
        have HEDX:=HED2
        have HKX:Hid (aV qs2=p.1):=HKA2
        clear hbf
        have htn:Hid (es.length<qs2.length):=aA HLX
        obtain⟨hnX,hesX,hoX⟩:=HSX.out.a
        obtain⟨Aee,cee,hee,_,_,_⟩:=aI.form hoX aG
        obtain⟨gX,cX,heX,_,_,hbgX⟩:=aI.addr HSX.out.o (by have:=htn.out;omega)
        injection heX with heX1 heX2 heX3
        subst heX1
        clear heX2 heX3
        have e0:wf.cell? ⟨gX,es.length*2+1,none⟩=some (.slice Aee p.2.length cee):=by
         rw[←hee];exact aI.cellAt HSX.out.o zae es.length 1 hnX _ rfl
        obtain⟨curX,hcurX⟩:∃cur,wf.heap[gX]?=some (.cells cur 50 (0,0)):=by
         rcases HSX.out.o.2 with⟨e,_⟩|⟨g2,cap,cur,e,_,hgg,_⟩
         ·cases e
         ·injection e with e _ _
          injection e with e
          injection e with e
          subst e
          exact⟨cur,hgg⟩
        have HCU:=aA ((cell_of_row wf gX (es.length*2+1) _ _ _ hcurX).symm.trans e0)
        rw[hee]at hoX
        have HOX:=aA (hoX.alloc (.cells #[.int .i64 s,.int .i64 fz] 52))
        have HCX:=aA ((Below.heap_alloc wf (.cells #[.int .i64 s,.int .i64 fz] 52) gX (Array.getElem?_eq_some_iff.1 hcurX).1).trans hcurX)
        have HNEW:=aA (heap_alloc_new wf (.cells #[.int .i64 s,.int .i64 fz] 52))
        have HSXa:=aA (HSX.out.below ((Below.refl wf.heap.size wf).alloc (Nat.le_refl _) (.cells #[.int .i64 s,.int .i64 fz] 52)))
        have HWXa:=aA (HWX.out.alloc (.cells #[.int .i64 s,.int .i64 fz] 52))
        have HZXa:Hid (w6.heap.size≤(wf.alloc (.cells #[.int .i64 s,.int .i64 fz] 52)).heap.size):=aA (by have:=HZX.out;simp;omega)
        have HRXa:Hid (bF 33 (wf.alloc (.cells #[.int .i64 s,.int .i64 fz] 52)) 0 wf.heap.size Ac cl):=aA (HRX.out.keep fun g cur hg hc=>(Below.heap_alloc wf _ g hg).trans hc)
        have HEE:=aA hee
        have HES:=aA hesX
        have HNX:=aA hnX
        have hqI:((es.length:Nat):Int)<((qs2.length:Nat):Int):=by have:=htn.out;omega
        clear hesX hoX hcurX hee
        go_wp2_with (at_builtin;refine zcj (f:=prF) rfl (.tmp 70) (.tmp 74) _ rfl Tryz.underlying48 _ 16 zgi (by decide) (by decide) (by decide) aG zaI w6.heap.size _ p.2 rfl HOX.out _ _ (s,fz) rfl (zb6 (s,fz) _ _ HNEW.out) (by have:=HPL.out;omega) HZXa.out ?_;intro v9 w9 ho9 hg9;obtain⟨A9,c9,hv9,_,_,_⟩:=aI.form ho9 aG;generalize hln:(p.2++[(s,fz)]).length=ln at hv9;subst hv9;have HLN9:=aA hln;clear hln;have hc9:=aQ HOX.out hg9 HCX.out (fun cur=>aO (by decide));have e9:=(cell_of_row w9 gX (es.length*2+1) _ _ _ hc9).trans HCU.out;have f9:=frozen_of_row w9 gX (es.length*2+1) _ _ hc9;have l9:=(Array.getElem?_eq_some_iff.1 hc9).1)
        have HSY9:=aA (HSXa.out.edge HNX.out ho9 (by rw[HLN9.out]) (by rw[HEE.out];exact hg9))
        have hgz:=hg9.size
        have hsz9:(w9.setCell ⟨gX,es.length*2+1,none⟩ (.slice A9 ln c9)).heap.size=w9.heap.size:=by simp
        have HW9:Hid (aZ 26 w #[.slice AT G.ts.length cT,.slice AN G.ns.length cN,.slice AR G.rs.length cR,.int .i64 G.st] (w9.setCell ⟨gX,es.length*2+1,none⟩ (.slice A9 ln c9))):=aA (Below.setCell (Below.grown HWXa.out hg9 HWXa.out.size (fun k e=>Nat.le_trans HBE.out (World.ownsRow.lt HOX.out k e).1)) hbgX _)
        have HR9:Hid (bF 33 (w9.setCell ⟨gX,es.length*2+1,none⟩ (.slice A9 ln c9)) 0 (w9.setCell ⟨gX,es.length*2+1,none⟩ (.slice A9 ln c9)).heap.size Ac cl):=aA ((HRXa.out.keep fun g cur hg hc=>(Below.heap_setCell w9 ⟨gX,es.length*2+1,none⟩ _ g (fun e=>by
         have e:g=gX:=e
         rw[e,HCX.out]at hc
         injection hc with hc
         exact aO (by decide) hc)).trans (aQ HOX.out hg9 hc fun cur=>aO (by decide))).more (by rw[hsz9];simp at hgz;omega))
        have HZ9:Hid (w6.heap.size≤(w9.setCell ⟨gX,es.length*2+1,none⟩ (.slice A9 ln c9)).heap.size):=aA (by rw[hsz9];exact Nat.le_trans HZXa.out hgz)
        have HLS:Hid ((qs2.set es.length ((qs2[es.length]).1,(p.2++[(s,fz)],A9,c9))).length=qs2.length):=aA List.length_set
        have HKS:Hid (aV (qs2.set es.length ((qs2[es.length]).1,(p.2++[(s,fz)],A9,c9)))=aV qs2):=aA (by
         unfold aV
         rw[List.map_set]
         refine List.ext_getElem? fun j=>?_
         rw[List.getElem?_set]
         by_cases hij:es.length=j
         ·subst hij
          rw[if_pos rfl,if_pos (by simpa using hnX),List.getElem?_map,List.getElem?_eq_getElem hnX];rfl
         ·rw[if_neg hij])
        have HEDS:Hid (EdI (qs2.set es.length ((qs2[es.length]).1,(p.2++[(s,fz)],A9,c9))) es):=aA (HEDX.out.set _)
        have HLE9:Hid ((p.2++[(s,fz)]).length≤i+1):=aA (by have:=HLE2.out;rw[List.length_append,List.length_singleton];omega)
        rw[←HLS.out]
        generalize qs2.set es.length ((qs2[es.length]).1,(p.2++[(s,fz)],A9,c9))=qs9 at *
        clear ho9 hg9 hc9 e9 f9 l9 e0 hgz hsz9
        go_roundw
        case rel=>exact⟨i+1,qs9,hin,by go_num,by rw[HLS.out];exact htn.out,by rw[HLS.out];omega,aA (by rw[HTK.out,HE.out,HKS.out];exact HKX.out),HEDS,aA (by rw[HTK.out,HE.out,HLS.out];exact HSY9.out),aA (by rw[HTK.out,HE.out];exact HLE9.out),HR9,HW9,HZ9⟩
        case measure=>simp[intOf];omega
     ·obtain rfl:i=nn:=by omega
      have htk:(Au.syms G).take i=Au.syms G:=List.take_of_length_le (by rw[Au.syms_len];have:=HNN.out;omega)
      rw[htk,←HON.out]at HKA2 HSA2 HLE2
      have HA:=aA (HSA2.out.st HZ2.out HBE.out)
      have hae:(qs2[es.length]'hl2).2.1=(Au.one G ks es.length).2:=HSA2.out.a.2.1
      have HEO:Hid (EdO qs2 (es++[(Au.one G ks es.length).2])):=aA (by rw[←hae];exact HED2.out.out hl2)
      have HO1:Hid ((Au.one G ks es.length).1.length=qs2.length):=aA (by rw[←HKA2.out];unfold aV;rw[List.length_map])
      have hni:¬((i:Nat):Int)<((i:Nat):Int):=by omega
      have hq3:(qs2.length:Int)≤1000:=by have:=HN40.out;omega
      clear hae htk hl3 hi
      by_cases h300:300<(Au.one G ks es.length).1.length
      ·have HB0:=aA (Au.bld_many HR.out (by rw[←HRU.out,HRS.out,if_pos h300]))
       have h3I:(300:Int)<((qs2.length:Nat):Int):=by rw[←HO1.out];omega
       clear h300 hl2 hlt hle
       generalize qs2.length=nq at *
       go_wp2
       go_ret2
       exact zh4.nil HB0.out HW2.out.below
      ·have HRU2:Hid (Au.run G (302-(es++[(Au.one G ks es.length).2]).length) (Au.one G ks es.length).1 (es++[(Au.one G ks es.length).2])=Au.bld G):=aA (by rw[←HRU.out,HRS.out,if_neg h300])
       have h3I:((qs2.length:Nat):Int)≤(300:Int):=by rw[←HO1.out];omega
       have h3N:(Au.one G ks es.length).1.length≤300:=by omega
       have HNE:Hid ((es++[(Au.one G ks es.length).2]).length=es.length+1):=aA (by simp)
       have HLL:Hid ((es++[(Au.one G ks es.length).2]).length≤(Au.one G ks es.length).1.length):=aA HIN.out.le
       clear h300
       go_wp2
       go_roundw
       case rel =>
        exact⟨_,_,_,_,⟨(Au.one G ks es.length).1,es++[(Au.one G ks es.length).2],by rw[HNE.out];go_num,h3N,HLL.out,HIN,HRU2,qs2,HKA2,HEO,HA⟩,rfl,rfl,rfl,rfl⟩
       case measure=>simp[intOf];omega
   ·have hen:es.length=ks.length:=by omega
    have HB0:=aA (Au.bld_ok HR.out (by rw[←HRU.out];exact Au.run_end hen hk3))
    have hst:=HE.out.zip (by omega)
    rw[HKA.out]at hst
    have HRD:=aA (za1.rd HST.out (Nat.le_refl _) (Nat.le_refl _))
    rw[hst]at HRD
    obtain⟨A9,c9,he9,hlc,hmc,_⟩:=aI.form HST.out.1 zae
    injection he9 with he91 he92 he93
    subst he93
    have HSL:Hid ((Au.bldS G).length=qs.length):=aA (by rw[HB0.out.2,←hst,List.length_map])
    have HLC:=aA hlc
    have HMC:=aA (show co≤9223372036854775807 by unfold maxLen at hmc;omega)
    have hnq:¬((es.length:Nat):Int)<((qs.length:Nat):Int):=by omega
    clear hst hlc hmc hlt hen hle hk3 hql he91 he92
    generalize es.length=ne at *
    generalize qs.length=nq at *
    go_wp2
    go_ret2
    refine⟨Ao,co,?_,by rw[HSL.out];exact HLC.out,HMC.out,by rw[HB0.out.2];exact HRD.out,HW.out.below⟩
    rw[HSL.out,HB0.out.1];rfl
theorem Au.bldE_iff {G:Gm.Gr}:Au.bldE G=0 ↔ ∃K E,Gm.isB G=true∧Au.bld G=some (K,E):=by
 cases hb:Gm.isB G
 ·rw[(Au.bld_no hb).1]
  exact⟨fun h=>absurd h (by decide),fun⟨_,_,h,_⟩=>by cases h⟩
 ·cases hk:Au.bld G with
  | none =>
   rw[(Au.bld_many hb hk).1]
   exact⟨fun h=>absurd h (by decide),fun⟨_,_,_,h⟩=>by cases h⟩
  | some p =>
   rw[(Au.bld_ok hb hk).1]
   exact⟨fun _=>⟨p.1,p.2,rfl,rfl⟩,fun _=>rfl⟩
theorem Au.bldS_le (G:Gm.Gr):(Au.bldS G).length≤300∧∀x∈Au.bldS G,x.1.length≤287∧x.2.length≤64:=by
 cases hb:Gm.isB G
 ·rw[(Au.bld_no hb).2];simp
 ·cases hk:Au.bld G with
  | none=>rw[(Au.bld_many hb hk).2];simp
  | some p =>
   obtain⟨K,E⟩:=p
   rw[(Au.bld_ok hb hk).2]
   obtain⟨hi,hl,h3⟩:=Au.bld_inv hk
   have hok:=Gm.right_ok.1 (Gm.isB_right hb)
   refine⟨by rw[List.length_zip];omega,fun x hx=>?_⟩
   have h1:=(List.of_mem_zip hx)
   have ht:=(Gm.terms_iff G.ts).1 hok.t
   have hn:=(Gm.nons_iff G).1 hok.n
   refine⟨Au.kernel_le hok hok.r40 hi h1.1,?_⟩
   obtain⟨i,hi2,e⟩:=List.getElem_of_mem h1.2
   rw[←e]
   exact Au.edges_le (by omega) (by omega) hi hi2
theorem zfJ (G:Gm.Gr) (A A':Option Addr) (c c' B:Nat) (w:World) (hs:bI w B A (Au.bldS G)) (hs':bI w B A' (Au.bldS G)) (hB:B≤w.heap.size) :
  Calls Tryz.prog 19 #[.slice A (Au.bldS G).length c,.slice A' (Au.bldS G).length c'] w fun e w'=>e=.returned (.bool true)∧Below w.heap.size w w' :=
 ze8 (Au.bldS G) A A' c c' B w hs hs' hB (by have:=(Au.bldS_le G).1;omega) fun x hx=>by have:=(Au.bldS_le G).2 x hx;omega
theorem zci (v:Value) (G:Gm.Gr) (w:World) (hg:aT w w.heap.size v G) (hf:Gm.Fit G) :
  Calls Tryz.prog 4 #[v] w fun e w'=>e=.returned (.bool true)∧Below w.heap.size w w':=by
 have HGG:=aA (fun(x:World) (h:Below w.heap.size w x)=>hg.below h (Nat.le_refl _))
 have HAL:=aA (fun(x:World)=>zaD x)
 have TG:=aA (fun(x:World) (h:Below w.heap.size w x)=>zba v G w.heap.size x (HGG.out x h) h.size)
 have TA:=aA (fun(x:World) (h:Below w.heap.size w x)=>zaR v G w.heap.size x (HGG.out x h) hf h.size)
 have TB:=aA (fun(x:World) (h:Below w.heap.size w x)=>zdx v G w.heap.size x (HGG.out x h) hf h.size)
 obtain⟨A0,c0,A1,c1,A2,c2,rfl,_⟩:=hg
 have HQ0:=aA (One.start w #[.slice A0 G.ts.length c0,.slice A1 G.ns.length c1,.slice A2 G.rs.length c2,.int .i64 G.st])
 have HXC:=aA (fun(x:World) (h:One w #[.slice A0 G.ts.length c0,.slice A1 G.ns.length c1,.slice A2 G.rs.length c2,.int .i64 G.st] x)=>And.intro (h.c 0 _ rfl) (And.intro (h.c 1 _ rfl) (And.intro (h.c 2 _ rfl) (h.c 3 _ rfl))))
 clear hf
 go_enter Tryz.func4,Tryz.ntmps4
 go_wp2_with fail
 refine(HAL.out _).mono ?_;rintro _ w1 ⟨rfl,hb1⟩
 have HQ1:=aA (HQ0.out.on hb1)
 obtain⟨x0,x1,x2,x3⟩:=HXC.out w1 HQ1.out
 clear hb1
 cases hgr:Gm.great G with
 | true =>
  rw[hgr]at TG
  go_wp2_with fail
  refine(TG.out _ HQ1.out.below).mono ?_;rintro _ w2 ⟨rfl,hb2⟩
  have HQ2:=aA (HQ1.out.on hb2)
  clear hb2
  go_wp2
  go_ret
  exact⟨rfl,HQ2.out.below⟩
 | false =>
  have HSM:=aA (fun(A A':Option Addr) (c c':Nat) (x:World)=>zfJ G A A' c c' x.heap.size x)
  rw[hgr]at TG
  clear hgr
  go_upto_region 5 with fail
  refine(TG.out _ HQ1.out.below).mono ?_;rintro _ w2 ⟨rfl,hb2⟩
  have HQ2:=aA (HQ1.out.on hb2)
  clear x0 x1 x2 x3 hb2 TG
  obtain⟨x0,x1,x2,x3⟩:=HXC.out w2 HQ2.out
  have l1:w.heap.size<w2.heap.size:=HQ2.out.size
  go_upto_region 6 with fail
  refine(TA.out w2 HQ2.out.below).mono ?_;rintro _ w3 ⟨A3,c3,rfl,_,_,hr3,hb3⟩
  have HQ3:=aA (HQ2.out.on hb3)
  have HR3:=aA hr3
  clear x0 x1 x2 x3 l1 hr3 hb3
  obtain⟨x0,x1,x2,x3⟩:=HXC.out w3 HQ3.out
  have l1:w.heap.size<w3.heap.size:=HQ3.out.size
  go_upto_region 7 with fail
  refine(TB.out w3 HQ3.out.below).mono ?_;rintro _ w4 ⟨A4,c4,rfl,_,_,hr4,hb4⟩
  have HQ4:=aA (HQ3.out.on hb4)
  have HI4:=aA (HSM.out A3 A4 c3 c4 w4 ((HR3.out.below hb4 (Nat.le_refl _)).more hb4.size) hr4 (Nat.le_refl _))
  have hee:(Au.bldE G==Au.bldE G)=true:=by simp
  clear x0 x1 x2 x3 l1 hr4 hb4 HSM HR3
  generalize Au.bldE G=err at *
  generalize (Au.bldS G).length=nn at *
  go_wp2_with fail
  refine HI4.out.mono ?_;rintro _ w5 ⟨rfl,hb5⟩
  have HQ5:=aA (HQ4.out.on hb5)
  clear hb5
  go_wp2
  go_ret
  exact⟨rfl,HQ5.out.below⟩
end Go.Proofs.YtabmfpgpkbndeaaGreat
