/- Part of the proofs over this program: AuClos, AuAsk, AuText, AuSt, AuNum, AuMv, AuEdge, AuBuild. -/
import Derived.Test.YtabmfpgpkbndeaaGreatKAK
namespace Go.Proofs.YtabmfpgpkbndeaaGreat
set_option maxRecDepth 100000
set_option maxHeartbeats 40000000
open Go.RowKit
theorem zcR (v:Value) (G:Gm.Gr) (B:Nat) (l:List Au.It) (A:Option Addr) (c BL:Nat) (w:World) (hg:aT w B v G) (hf:Gm.Fit G) (hok:Gm.Ok G) (hB:B≤w.heap.size) (hl:RdQ 2 prF w BL A l) (hBL:BL≤w.heap.size) (hin:∀x∈l,Gm.In x.1∧Gm.In x.2) (hlen:l.length≤1000) :
  Calls Tryz.prog 31 #[v,.slice A l.length c] w fun e w'=>∃v',e=.returned v'∧aI 33 2 prF w' w.heap.size v' (Au.clo G (l.filter (Au.isI G)))∧Below w.heap.size w w':=by
 have HG:=aA hg
 have HF:=aA hf
 have HOK:=aA hok
 have HBW:=aA hB
 have HL:=aA hl
 have HBL:=aA hBL
 have HIN:=aA hin
 obtain⟨AT,cT,AN,cN,AR,cR,rfl,_⟩:=hg
 have hmf:∀(fn:Fn) (first cap:Array Value) (w:World),(Instr.makeFunc fn first cap).run Tryz.prog w=.ok (.func fn first cap) w:=fun _ _ _ _=>rfl
 have hmm:=fun t w=>run_makeMap (P:=Tryz.prog) t w
 obtain⟨w1,hw1⟩:∃y,y=w.alloc (.cells #[.slice AT G.ts.length cT,.slice AN G.ns.length cN,.slice AR G.rs.length cR,.int .i64 G.st] 26):=⟨_,rfl⟩
 have hs1:w1.heap.size=w.heap.size+1:=by rw[hw1];simp
 have b1:Below w.heap.size w w1:=by rw[hw1];exact(Below.refl _ _).alloc (Nat.le_refl _) _
 have g1:w1.heap[w.heap.size]?=some (.cells #[.slice AT G.ts.length cT,.slice AN G.ns.length cN,.slice AR G.rs.length cR,.int .i64 G.st] 26 (0,0)):=by rw[hw1];exact heap_alloc_new w _
 obtain⟨w2,hw2⟩:∃y,y=w1.alloc (.cells #[.slice none 0 0] 27):=⟨_,rfl⟩
 have hs2:w2.heap.size=w.heap.size+2:=by rw[hw2];simp[hs1]
 have b2:Below w1.heap.size w1 w2:=by rw[hw2];exact(Below.refl _ _).alloc (Nat.le_refl _) _
 have g2:w2.heap[w.heap.size+1]?=some (.cells #[.slice none 0 0] 27 (0,0)):=by rw[hw2,←hs1];exact heap_alloc_new w1 _
 obtain⟨w3,hw3⟩:∃y,y=w2.alloc (.map #[] 0):=⟨_,rfl⟩
 have hs3:w3.heap.size=w.heap.size+3:=by rw[hw3];simp[hs2]
 have b3:Below w2.heap.size w2 w3:=by rw[hw3];exact(Below.refl _ _).alloc (Nat.le_refl _) _
 have g3:Mw.MapIs itE w3 (w.heap.size+2) []:=by rw[hw3,←hs2];exact Mw.MapIs.made itE w2
 obtain⟨w4,hw4⟩:∃y,y=w3.alloc (.cells #[.map (some (w.heap.size+2))] 86):=⟨_,rfl⟩
 have b4:Below w3.heap.size w3 w4:=by rw[hw4];exact(Below.refl _ _).alloc (Nat.le_refl _) _
 have g4:w4.heap[w.heap.size+3]?=some (.cells #[.map (some (w.heap.size+2))] 86 (0,0)):=by rw[hw4,←hs3];exact heap_alloc_new w3 _
 have HB4:Hid (Below w.heap.size w w4):=aA (((b1.trans (b2.mono (by omega))).trans (b3.mono (by omega))).trans (b4.mono (by omega)))
 have hbx:=aE b4 (aE b3 (aE b2 g1))
 have HBX:=aA hbx
 have HA4:Hid (AdSt w4 w.heap.size (w.heap.size+1) (w.heap.size+3) (w.heap.size+2) (Au.addsX [] ([].filter (Au.isI G)))):=aA ⟨⟨_,aE b4 (aE b3 g2),aI.nil _ _⟩,g4,⟨[],g3.block (b4.block _ g3.lt),fun x=>by simp[Mw.asc,Au.addsX]⟩,by omega,by omega,by omega⟩
 have HZ4:Hid (w.heap.size+4≤w4.heap.size):=aA (by have:=(Array.getElem?_eq_some_iff.1 g4).1;omega)
 clear hf hok hB hl hBL hin b1 b2 b3 b4 g1 g2 g3 g4 hbx
 have hlen2:(l.length:Int)≤1000:=by omega
 go_enter Tryz.func31,Tryz.ntmps31
 go_upto_region 1 with fail
 rw[←hw1]
 clear hw1
 go_upto_region 2 with fail
 rw[←hw2]
 clear hw2
 go_upto_region 3 with fail
 rw[←hw3]
 rw[←hw4]
 clear hw3 hw4 hs1 hs2 hs3 hmm
 rw[show w.heap.size+2+1=w.heap.size+3 from rfl]
 obtain⟨pT,hpT⟩:∃p,p=w.heap.size+3:=⟨_,rfl⟩
 obtain⟨pA,hpA⟩:∃p,p=w.heap.size+1:=⟨_,rfl⟩
 obtain⟨M,hM⟩:∃p,p=w.heap.size+2:=⟨_,rfl⟩
 rw[←hpT,←hpA,←hM]at HA4
 rw[←hpT,←hpA,←hM]
 clear hpT hpA hM
 go_wp2
 go_loopw [17] (fun vi wr=>∃i:Nat,i≤l.length∧vi=.int .i64 i∧Hid (AdSt wr w.heap.size pA pT M (Au.addsX [] ((l.take i).filter (Au.isI G))))∧Hid (Below w.heap.size w wr)∧Hid (KeepI w4 wr)) (fun vi _=>l.length-(intOf vi).toNat)
 case atStart=>exact⟨0,Nat.zero_le _,rfl,by simpa using HA4,HB4,aA (KeepI.refl _)⟩
 case round =>
  obtain⟨i,hi,rfl,HA,HW,HK⟩:=hrel
  by_cases hlt:i<l.length
  ·obtain⟨g,o,rfl,hgB,hc⟩:=HL.out (by omega)
   have hgw:g<w.heap.size:=Nat.lt_of_lt_of_le hgB HBL.out
   have k0:wr.cell? ⟨g,o+i*2,none⟩=some (.int .i64 (l[i]).1):=(HW.out.cell (p:=⟨g,o+i*2,none⟩) hgw).trans (hc i hlt 0 _ rfl)
   have k1:wr.cell? ⟨g,o+i*2+1,none⟩=some (.int .i64 (l[i]).2):=(HW.out.cell (p:=⟨g,o+i*2+1,none⟩) hgw).trans (hc i hlt 1 _ rfl)
   have HIx:=aA (HIN.out _ (List.getElem_mem hlt))
   have HTK:Hid (l.take (i+1)=l.take i++[l[i]]):=aA (List.take_succ_eq_append_getElem hlt)
   have HLN:=aA (show(Au.addsX [] ((l.take i).filter (Au.isI G))).length≤100000 by
    have h1:=Au.addsX_up (xs:=[]) (zs:=(l.take i).filter (Au.isI G))
    have h2:=List.length_filter_le (Au.isI G) (l.take i)
    rw[List.length_take]at h2
    simp only[List.length_nil]at h1
    omega)
   obtain⟨wi,hwi⟩:∃y,y=wr.alloc (.cells #[.int .i64 (l[i]).1,.int .i64 (l[i]).2] 33):=⟨_,rfl⟩
   have HBI:Hid (Below wr.heap.size wr wi):=aA (by rw[hwi];exact(Below.refl _ _).alloc (Nat.le_refl _) _)
   have hbi:wi.heap[wr.heap.size]?=some (.cells #[.int .i64 (l[i]).1,.int .i64 (l[i]).2] 33 (0,0)):=by rw[hwi];exact heap_alloc_new wr _
   have HBIX:=aA hbi
   have y0:wi.cell? ⟨wr.heap.size,0,none⟩=some (.int .i64 (l[i]).1):=cell_of_row wi _ 0 _ _ _ hbi
   have y1:wi.cell? ⟨wr.heap.size,1,none⟩=some (.int .i64 (l[i]).2):=cell_of_row wi _ 1 _ _ _ hbi
   have hwr4:w.heap.size≤wr.heap.size:=HW.out.size
   have HWI:=aA (HW.out.trans (HBI.out.mono hwr4))
   have HKI:=aA (HK.out.trans (.below HBI.out))
   have HAI:=aA (HA.out.below HBI.out)
   have hgx:=HKI.out.keep _ _ _ _ HBX.out (by decide) (by decide)
   have z0:wi.cell? ⟨w.heap.size,0,none⟩=some (.slice AT G.ts.length cT):=cell_of_row wi _ 0 _ _ _ hgx
   have z1:wi.cell? ⟨w.heap.size,1,none⟩=some (.slice AN G.ns.length cN):=cell_of_row wi _ 1 _ _ _ hgx
   have z2:wi.cell? ⟨w.heap.size,2,none⟩=some (.slice AR G.rs.length cR):=cell_of_row wi _ 2 _ _ _ hgx
   have z3:wi.cell? ⟨w.heap.size,3,none⟩=some (.int .i64 G.st):=cell_of_row wi _ 3 _ _ _ hgx
   have HHA:=aA (zdL _ G B l[i] wi (HG.out.below HWI.out HBW.out) HF.out (Nat.le_trans HBW.out HWI.out.size))
   clear hc hbi hgx hgw hgB
   generalize l[i]=x at *
   go_upto_region 7 with fail
   rw[←hwi]
   clear hwi k0 k1
   cases hI:Au.isI G x
   ·have HE:Hid ((l.take (i+1)).filter (Au.isI G)=(l.take i).filter (Au.isI G)):=aA (by rw[HTK.out,List.filter_append,List.filter_cons,if_neg (by rw[hI];decide)];simp)
    rw[hI]at HHA
    clear hI HTK
    go_wp2_with fail
    refine HHA.out.mono ?_;rintro _ w2 ⟨rfl,hb2⟩
    have HA2:=aA (HAI.out.below hb2)
    have HW2:=aA (HWI.out.trans (hb2.mono HWI.out.size))
    have HK2:=aA (HKI.out.trans (.below hb2))
    clear hb2 y0 y1 z0 z1 z2 z3
    go_wp2
    go_roundw
    case rel=>exact⟨i+1,hlt,by go_num,aA (by rw[HE.out];exact HA2.out),HW2,HK2⟩
    case measure=>simp[intOf];omega
   ·have HE:Hid ((l.take (i+1)).filter (Au.isI G)=(l.take i).filter (Au.isI G)++[x]):=aA (by rw[HTK.out,List.filter_append,List.filter_cons,if_pos hI];simp)
    rw[hI]at HHA
    clear hI HTK
    go_wp2_with fail
    refine HHA.out.mono ?_;rintro _ w2 ⟨rfl,hb2⟩
    have HA2:=aA (HAI.out.below hb2)
    have HW2:=aA (HWI.out.trans (hb2.mono HWI.out.size))
    have HK2:=aA (HKI.out.trans (.below hb2))
    have hb2x:=aE hb2 HBIX.out
    have y0:w2.cell? ⟨wr.heap.size,0,none⟩=some (.int .i64 x.1):=cell_of_row w2 _ 0 _ _ _ hb2x
    have y1:w2.cell? ⟨wr.heap.size,1,none⟩=some (.int .i64 x.2):=cell_of_row w2 _ 1 _ _ _ hb2x
    have HAD:=aA (zeP w2 w.heap.size pA pT M _ x HA2.out HIx.out HLN.out)
    clear hb2 hb2x z0 z1 z2 z3
    go_wp2_with fail
    refine HAD.out.mono ?_;rintro _ w3 ⟨rfl,ha3,hb3,hk3⟩
    have HA3:=aA ha3
    have HW3:=aA (HW2.out.trans hb3)
    have HK3:=aA (HK2.out.trans hk3)
    clear ha3 hb3 hk3 y0 y1
    go_wp2
    go_roundw
    case rel=>exact⟨i+1,hlt,by go_num,aA (by rw[HE.out,Au.addsX_snoc];exact HA3.out),HW3,HK3⟩
    case measure=>simp[intOf];omega
  ·obtain rfl:i=l.length:=by omega
   rw[List.take_length]at HA
   have HLF:Hid (∀x∈l.filter (Au.isI G),Au.isI G x=true):=aA (fun x hx=>(List.mem_filter.1 hx).2)
   generalize hle:l.filter (Au.isI G)=lf at *
   have HLE:=aA hle
   clear hle
   obtain⟨wo,hwo⟩:∃wo:World,wo=wr:=⟨_,rfl⟩
   subst hwo
   clear HIN HL hlen hlen2
   have HPC:=aA (Au.PC.start G lf)
   generalize Au.addsX [] lf=xs0 at *
   go_wp2
   go_loopw [10] (fun vi wr=>∃(i:Nat) (xs:List Au.It),i≤xs.length∧vi=.int .i64 i∧Hid (Au.PC G lf i xs)∧Hid (AdSt wr w.heap.size pA pT M xs)∧Hid (Below w.heap.size w wr)∧Hid (KeepI w4 wr)) (fun vi _=>300-(intOf vi).toNat)
   case atStart=>exact⟨0,xs0,Nat.zero_le _,rfl,HPC,HA,HW,HK⟩
   case round =>
    obtain⟨i,xs,hi,rfl,HP,HA,HW,HK⟩:=hrel
    have hle:xs.length≤287:=Nat.le_trans (HP.out.le HLF.out) (Au.allI_le HOK.out HOK.out.r40)
    obtain⟨v,h1,h2⟩:=HA.out.v
    have H1:=aA h1
    have H2:=aA h2
    have hwr4:w.heap.size≤wr.heap.size:=HW.out.size
    have hgx:=HK.out.keep _ _ _ _ HBX.out (by decide) (by decide)
    have HGX:=aA hgx
    by_cases hlt:i<xs.length
    ·obtain⟨g,c1,rfl,hlc,hmc,_⟩:=aI.addr h2 (by omega)
     have cA:wr.cell? ⟨pA,0,none⟩=some (.slice (some ⟨g,0,none⟩) xs.length c1):=cell_of_row wr pA 0 _ _ _ h1
     have k0:wr.cell? ⟨g,i*2,none⟩=some (.int .i64 (xs[i]).1):=aI.cellAt h2 aG i 0 hlt _ rfl
     have k1:wr.cell? ⟨g,i*2+1,none⟩=some (.int .i64 (xs[i]).2):=aI.cellAt h2 aG i 1 hlt _ rfl
     have hgl:=aI.lt h2
     have hpl:=(Array.getElem?_eq_some_iff.1 h1).1
     have hGl:=(Array.getElem?_eq_some_iff.1 hgx).1
     have hltI:(i:Int)<(xs.length:Int):=by omega
     have HNX:Hid (Au.PC G lf (i+1) (Au.addsX xs (Au.addE G xs[i]))):=aA (HP.out.next (List.getElem?_eq_getElem hlt))
     have HII:Hid (Au.isI G xs[i]=true):=aA (Au.cl_is HLF.out (HP.out.c _ (List.getElem_mem hlt)))
     have HUP:Hid (xs.length≤(Au.addsX xs (Au.addE G xs[i])).length):=aA Au.addsX_len
     have HNE:=aA (fun(y:World) (h:Below wr.heap.size wr y)=>zbz _ G B xs[i] y (HG.out.below (HW.out.trans (h.mono hwr4)) HBW.out) HF.out (Nat.le_trans HBW.out (Nat.le_trans hwr4 h.size)))
     have HLN:=aA (show xs.length≤50000 by omega)
     have HX1:Hid (∃m,xs.drop m=[]∧i+1≤xs.reverse.length):=aA ⟨_,List.drop_length,by rw[List.length_reverse];exact hlt⟩
     generalize xs[i]=x at *
     generalize xs.length=n at *
     clear h1 h2 hgx
     go_upto_region 13 with fail
     have qA:∀z:Calm.On wr.heap.size wr,z.1.cell? ⟨pA,0,none⟩=some (.slice (some ⟨g,0,none⟩) n c1):=fun z=>(z.2.cell (p:=⟨pA,0,none⟩) hpl).trans cA
     have q0:∀z:Calm.On wr.heap.size wr,z.1.cell? ⟨g,i*2,none⟩=some (.int .i64 x.1):=fun z=>(z.2.cell (p:=⟨g,i*2,none⟩) hgl).trans k0
     have q1:∀z:Calm.On wr.heap.size wr,z.1.cell? ⟨g,i*2+1,none⟩=some (.int .i64 x.2):=fun z=>(z.2.cell (p:=⟨g,i*2+1,none⟩) hgl).trans k1
     have z0:∀z:Calm.On wr.heap.size wr,z.1.cell? ⟨w.heap.size,0,none⟩=some (.slice AT G.ts.length cT):=fun z=>cell_of_row z.1 _ 0 _ _ _ (aE z.2 HGX.out)
     have z1:∀z:Calm.On wr.heap.size wr,z.1.cell? ⟨w.heap.size,1,none⟩=some (.slice AN G.ns.length cN):=fun z=>cell_of_row z.1 _ 1 _ _ _ (aE z.2 HGX.out)
     have z2:∀z:Calm.On wr.heap.size wr,z.1.cell? ⟨w.heap.size,2,none⟩=some (.slice AR G.rs.length cR):=fun z=>cell_of_row z.1 _ 2 _ _ _ (aE z.2 HGX.out)
     have z3:∀z:Calm.On wr.heap.size wr,z.1.cell? ⟨w.heap.size,3,none⟩=some (.int .i64 G.st):=fun z=>cell_of_row z.1 _ 3 _ _ _ (aE z.2 HGX.out)
     have HS0:Hid (∃z:Calm.On wr.heap.size wr,wr.drew=z.1):=aA ⟨⟨wr.drew,aB (Below.refl _ _) 1⟩,rfl⟩
     clear k0 k1 cA
     refine CalmN.region_tree (fun x=>∃z:Calm.On wr.heap.size wr,x=z.1) (.one [0,1,2,3,4] 5 (.fin [6,7,8,9,10])) (by kernel_rfl) (by kernel_rfl) (fun _ _ d _ _ h=>by cases d <;> exact h) HS0.out ?_
     simp only[CalmN.wpT,CalmN.wpSt,CalmN.pickOps,List.getElem?_toArray,List.getElem?_cons_zero,List.getElem?_cons_succ]
     repeat (go_big_quiet_step (fail))
     refine wpQuiet_nil ?_
     intro KK hKK
     rw[if_pos (by rfl)]
     go_wp2_with fail
     refine(HNE.out wr.drew (aB (Below.refl _ _) 1)).mono ?_;rintro _ w2 ⟨rfl,hb2⟩
     have hb2:Below wr.heap.size wr w2:=(aB (Below.refl _ wr) 1).trans hb2
     have HS2:Hid (∃z:Calm.On wr.heap.size wr,w2=z.1):=aA ⟨⟨w2,hb2⟩,rfl⟩
     have HB2:=aA hb2
     have HNP:=aA (Au.nxP_is HII.out)
     have HA2:=aA (HA.out.below hb2)
     have HW2:=aA (HW.out.trans (hb2.mono hwr4))
     have HK2:=aA (HK.out.trans (.below hb2))
     have HGX2:=aA (aE hb2 HGX.out)
     clear hb2 qA q0 q1 z0 z1 z2 z3 hpl hgl hGl hwr4
     cases hq:Au.nxP G x with
     | none =>
      have hE:=Au.addE_no (G:=G) (x:=x) (fun s hs=>by rw[←HNP.out,hq]at hs;cases hs)
      rw[hE]at HNX
      have HNX:Hid (Au.PC G lf (i+1) xs):=HNX
      clear hE hq
      go_wp2_with fail
      refine hKK _ _ HS2.out _ (fun _ h=>h) HS2.out ?_
      clear hKK
      repeat (go_big_quiet_step (fail))
      refine wpQuiet_nil ?_
      go_wp2
      go_roundw
      case rel=>exact⟨i+1,xs,by obtain⟨m,e,h⟩:=HX1.out;rw[List.length_reverse]at h;exact h,by go_num,HNX,HA2,HW2,HK2⟩
      case measure=>simp[intOf];omega
     | some s =>
      by_cases h0:s<0
      ·have hE:=Au.addE_beg (HNP.out.symm.trans hq) h0
       rw[hE]at HNX HUP
       have hsy:=Gm.has_iff.1 (Au.syms_mem.1 (Au.nx_in HOK.out HII.out (HNP.out.symm.trans hq)))
       have hns:=(Gm.nons_iff G).1 HOK.out.n
       have HIS:=aA (fun w=>zcQ s w)
       rw[decide_eq_true h0]at HIS
       have HNO:=aA (fun w=>zdi s (by omega) (by omega) w)
       have HLEN:Hid (i+1≤(Au.addsX xs (Au.begT G (-1-s) G.rs.length)).length):=aA (by obtain⟨m,e,h⟩:=HX1.out;rw[List.length_reverse]at h;exact Nat.le_trans h Au.addsX_len)
       have HBEG:=aA (zfr _ G B (-1-s) w2.drew w.heap.size pA pT M xs (HG.out.below (aB HW2.out 1) HBW.out) HBW.out (Nat.le_trans HOK.out.r40 (by omega)) (HA2.out.below (aB (Below.refl _ _) 1)) (by obtain⟨m,e,h⟩:=HX1.out;rw[List.length_reverse]at h;have:=HP.out.le HLF.out;have:=Au.allI_le HOK.out HOK.out.r40;omega))
       have z0:∀z:Calm.OnB w.heap.size w2,z.1.cell? ⟨w.heap.size,0,none⟩=some (.slice AT G.ts.length cT):=fun z=>cell_of_row z.1 _ 0 _ _ _ (z.2.trans HGX2.out)
       have z1:∀z:Calm.OnB w.heap.size w2,z.1.cell? ⟨w.heap.size,1,none⟩=some (.slice AN G.ns.length cN):=fun z=>cell_of_row z.1 _ 1 _ _ _ (z.2.trans HGX2.out)
       have z2:∀z:Calm.OnB w.heap.size w2,z.1.cell? ⟨w.heap.size,2,none⟩=some (.slice AR G.rs.length cR):=fun z=>cell_of_row z.1 _ 2 _ _ _ (z.2.trans HGX2.out)
       have z3:∀z:Calm.OnB w.heap.size w2,z.1.cell? ⟨w.heap.size,3,none⟩=some (.int .i64 G.st):=fun z=>cell_of_row z.1 _ 3 _ _ _ (z.2.trans HGX2.out)
       have HSA:Hid (∃z:Calm.OnB w.heap.size w2,w2.drew=z.1):=aA ⟨⟨w2.drew,rfl⟩,rfl⟩
       clear hE hq hsy hns h0
       go_wp2_with fail
       refine hKK _ _ HS2.out _ (fun _ h=>h) HS2.out ?_
       clear hKK
       repeat (go_big_quiet_step (fail))
       refine wpQuiet_nil ?_
       go_wp2_with fail
       refine(HIS.out _).mono ?_;rintro _ w3 ⟨rfl,hw3⟩
       subst hw3
       go_wp2_with fail
       refine CalmN.region_tree (fun x=>∃z:Calm.OnB w.heap.size w3,x=z.1) (.one [0,1,3] 2 (.one [] 4 (.fin []))) (by kernel_rfl) (by kernel_rfl) (fun _ _ d _ _ h=>by cases d <;> exact h) HSA.out ?_
       simp only[CalmN.wpT,CalmN.wpSt,CalmN.pickOps,List.getElem?_toArray,List.getElem?_cons_zero,List.getElem?_cons_succ]
       repeat (go_big_quiet_step (fail))
       refine wpQuiet_nil ?_
       clear z0 z1 z2 z3
       intro KK hKK
       rw[if_pos (by rfl)]
       go_wp2_with fail
       refine(HNO.out _).mono ?_;rintro _ w4' ⟨rfl,hw4⟩
       subst hw4
       go_wp2_with fail
       refine hKK _ _ HSA.out _ (fun _ h=>h) HSA.out ?_
       clear hKK
       refine wpQuiet_nil ?_
       intro KK hKK
       rw[if_pos (by rfl)]
       go_wp2_with fail
       refine HBEG.out.mono ?_;rintro _ w5 ⟨rfl,ha5,hb5,hk5⟩
       have hb5:Below w.heap.size w3 w5:=(aB (Below.refl _ w3) 1).trans hb5
       have hk5:KeepI w3 w5:=(KeepI.below (aB (Below.refl _ w3) 1)).trans hk5
       have HA5:=aA ha5
       have HW5:=aA (HW2.out.trans hb5)
       have HK5:=aA (HK2.out.trans hk5)
       have HSB:Hid (∃z:Calm.OnB w.heap.size w3,w5=z.1):=aA ⟨⟨w5,(hk5.keep _ _ _ _ HGX2.out (by decide) (by decide)).trans HGX2.out.symm⟩,rfl⟩
       clear ha5 hb5 hk5
       go_wp2_with fail
       refine hKK _ _ HSB.out _ (fun _ h=>h) HSB.out ?_
       clear hKK
       refine wpQuiet_nil ?_
       go_wp2
       go_roundw
       case rel=>exact⟨i+1,_,HLEN.out,by go_num,HNX,HA5,HW5,HK5⟩
       case measure=>simp[intOf];omega
      ·have hE:=Au.addE_no (G:=G) (x:=x) (fun s' hs=>by rw[←HNP.out,hq]at hs;injection hs with hs;omega)
       rw[hE]at HNX
       have HNX:Hid (Au.PC G lf (i+1) xs):=HNX
       have HIS:=aA (fun w=>zcQ s w)
       rw[decide_eq_false h0]at HIS
       clear hE hq h0
       go_wp2_with fail
       refine hKK _ _ HS2.out _ (fun _ h=>h) HS2.out ?_
       clear hKK
       repeat (go_big_quiet_step (fail))
       refine wpQuiet_nil ?_
       go_wp2_with fail
       refine(HIS.out _).mono ?_;rintro _ w3 ⟨rfl,hw3⟩
       subst hw3
       go_wp2
       go_roundw
       case rel=>exact⟨i+1,xs,by obtain⟨m,e,h⟩:=HX1.out;rw[List.length_reverse]at h;exact h,by go_num,HNX,HA2,HW2,HK2⟩
       case measure=>simp[intOf];omega
    ·obtain rfl:i=xs.length:=by omega
     obtain⟨A1,c1,rfl,hlc,hmc,_⟩:=aI.form h2 aG
     have cA:wr.cell? ⟨pA,0,none⟩=some (.slice A1 xs.length c1):=cell_of_row wr pA 0 _ _ _ h1
     have HSO:=aA (zgK h2 (by omega))
     have hD:=HP.out
     obtain⟨hs,hm⟩:=Au.srt_ok hD.nd
     have HD:=aA (Au.PC.done HLF.out hD hs hm)
     have HOL:=aA (fun k (e:(Value.slice A1 xs.length c1).ownBlock=some k)=>(World.ownsRow.lt h2 k e).1)
     generalize xs.length=n at *
     clear hD hs hm h1 h2 hgx
     go_wp2_with fail
     refine HSO.out.mono ?_;rintro _ w2 ⟨rfl,ho2,hg2⟩
     have h3:=aQ H2.out hg2 H1.out fun cur=>aO (by decide)
     have cA:w2.cell? ⟨pA,0,none⟩=some (.slice A1 n c1):=cell_of_row w2 pA 0 _ _ _ h3
     have HO2:=aA ho2
     have HW2:=aA (HW.out.grown hg2 hwr4 (fun k e=>HOL.out k e))
     clear ho2 hg2 h3
     go_wp2
     go_ret
     exact⟨_,rfl,by rw[HLE.out,←HD.out];exact HO2.out,HW2.out⟩
namespace Au
def hasB (G:Gm.Gr) (x:It):Bool:=Gm.right G&&isI G x
def nextO (G:Gm.Gr) (x:It):Option Int:=if Gm.right G=true then nxP G x else none
noncomputable def closL (G:Gm.Gr) (l:List It):List It:=if Gm.right G=true then clo G (l.filter (isI G)) else []
end Au
theorem zdj (v:Value) (G:Gm.Gr) (B:Nat) (x:Au.It) (w:World) (hg:aT w B v G) (hf:Gm.Fit G) (hB:B≤w.heap.size) :
  Calls Tryz.prog 12 #[v,itV x] w fun e w'=>e=.returned (.bool (Au.hasB G x))∧Below w.heap.size w w':=by
 have HR:=aA (fun y (h:Below w.heap.size w y)=>zaz v G B y (hg.below h hB) hf (Nat.le_trans hB h.size))
 have HA:=aA (fun y (h:Below w.heap.size w y)=>zdL v G B x y (hg.below h hB) hf (Nat.le_trans hB h.size))
 obtain⟨AT,cT,AN,cN,AR,cR,rfl,_⟩:=hg
 have HS0:=aA (bH.start 26 33 w #[.slice AT G.ts.length cT,.slice AN G.ns.length cN,.slice AR G.rs.length cR,.int .i64 G.st] #[.int .i64 x.1,.int .i64 x.2])
 have g0:=HS0.out.c1 0 _ rfl
 have g1:=HS0.out.c1 1 _ rfl
 have g2:=HS0.out.c1 2 _ rfl
 have g3:=HS0.out.c1 3 _ rfl
 unfold Au.hasB
 clear hf
 cases hr:Gm.right G
 ·rw[hr]at HR
  clear hr HA
  rw[Bool.false_and]
  go_enter Tryz.func12,Tryz.ntmps12
  go_wp2_with fail
  refine(HR.out _ HS0.out.below).mono ?_;rintro _ w2 ⟨rfl,hb⟩
  have HB:=aA (HS0.out.on hb)
  clear hb g0 g1 g2 g3
  go_wp2
  go_ret
  exact⟨rfl,HB.out.below⟩
 ·rw[hr]at HR
  clear hr
  rw[Bool.true_and]
  generalize Au.isI G x=b at *
  go_enter Tryz.func12,Tryz.ntmps12
  go_wp2_with fail
  refine(HR.out _ HS0.out.below).mono ?_;rintro _ w2 ⟨rfl,hb⟩
  have HB:=aA (HS0.out.on hb)
  have g0:=HB.out.c1 0 _ rfl
  have g1:=HB.out.c1 1 _ rfl
  have g2:=HB.out.c1 2 _ rfl
  have g3:=HB.out.c1 3 _ rfl
  have i0:=HB.out.c2 0 _ rfl
  have i1:=HB.out.c2 1 _ rfl
  clear hb
  go_wp2_with fail
  refine(HA.out _ HB.out.below).mono ?_;rintro _ w3 ⟨rfl,hb⟩
  have HB3:=aA (HB.out.on hb)
  clear hb g0 g1 g2 g3 i0 i1
  go_wp2
  go_ret
  exact⟨rfl,HB3.out.below⟩
theorem zdK (v:Value) (G:Gm.Gr) (B:Nat) (x:Au.It) (w:World) (hg:aT w B v G) (hf:Gm.Fit G) (hB:B≤w.heap.size) :
  Calls Tryz.prog 10 #[v,itV x] w fun e w'=>e=.returned (.tuple #[.int .i64 ((Au.nextO G x).getD 0),.bool (Au.nextO G x).isSome])∧Below w.heap.size w w':=by
 have HR:=aA (fun y (h:Below w.heap.size w y)=>zaz v G B y (hg.below h hB) hf (Nat.le_trans hB h.size))
 have HA:=aA (fun y (h:Below w.heap.size w y)=>zbz v G B x y (hg.below h hB) hf (Nat.le_trans hB h.size))
 obtain⟨AT,cT,AN,cN,AR,cR,rfl,_⟩:=hg
 have HS0:=aA (bH.start 26 33 w #[.slice AT G.ts.length cT,.slice AN G.ns.length cN,.slice AR G.rs.length cR,.int .i64 G.st] #[.int .i64 x.1,.int .i64 x.2])
 have g0:=HS0.out.c1 0 _ rfl
 have g1:=HS0.out.c1 1 _ rfl
 have g2:=HS0.out.c1 2 _ rfl
 have g3:=HS0.out.c1 3 _ rfl
 clear hf
 cases hr:Gm.right G
 ·have hq:Au.nextO G x=none:=by unfold Au.nextO;rw[if_neg (by rw[hr];decide)]
  rw[hr]at HR
  rw[hq]
  clear hr HA hq
  go_enter Tryz.func10,Tryz.ntmps10
  go_wp2_with fail
  refine(HR.out _ HS0.out.below).mono ?_;rintro _ w2 ⟨rfl,hb⟩
  have HB:=aA (HS0.out.on hb)
  clear hb g0 g1 g2 g3
  go_wp2
  go_ret2
  exact⟨rfl,HB.out.below⟩
 ·have hq:Au.nextO G x=Au.nxP G x:=by unfold Au.nextO;rw[if_pos hr]
  rw[hr]at HR
  rw[hq]
  clear hr hq
  generalize Au.nxP G x=b at *
  go_enter Tryz.func10,Tryz.ntmps10
  go_wp2_with fail
  refine(HR.out _ HS0.out.below).mono ?_;rintro _ w2 ⟨rfl,hb⟩
  have HB:=aA (HS0.out.on hb)
  have g0:=HB.out.c1 0 _ rfl
  have g1:=HB.out.c1 1 _ rfl
  have g2:=HB.out.c1 2 _ rfl
  have g3:=HB.out.c1 3 _ rfl
  have i0:=HB.out.c2 0 _ rfl
  have i1:=HB.out.c2 1 _ rfl
  clear hb
  go_wp2_with fail
  refine(HA.out _ HB.out.below).mono ?_;rintro _ w3 ⟨rfl,hb⟩
  have HB3:=aA (HB.out.on hb)
  clear hb g0 g1 g2 g3 i0 i1
  go_wp2
  go_ret2
  exact⟨rfl,HB3.out.below⟩
theorem zck (v:Value) (G:Gm.Gr) (B:Nat) (l:List Au.It) (A:Option Addr) (c BL:Nat) (w:World) (hg:aT w B v G) (hf:Gm.Fit G) (hB:B≤w.heap.size) (hl:RdQ 2 prF w BL A l) (hBL:BL≤w.heap.size) (hin:∀x∈l,Gm.In x.1∧Gm.In x.2) (hlen:l.length≤1000) :
  Calls Tryz.prog 15 #[v,.slice A l.length c] w fun e w'=>∃v',e=.returned v'∧aI 33 2 prF w' w.heap.size v' (Au.closL G l)∧Below w.heap.size w w':=by
 have HR:=aA (fun y (h:Below w.heap.size w y)=>zaz v G B y (hg.below h hB) hf (Nat.le_trans hB h.size))
 have HA:=aA (fun(hok:Gm.Ok G) y (h:Below w.heap.size w y)=>zcR v G B l A c BL y (hg.below h hB) hf hok (Nat.le_trans hB h.size) (hl.below h hBL) (Nat.le_trans hBL h.size) hin hlen)
 obtain⟨AT,cT,AN,cN,AR,cR,rfl,_⟩:=hg
 have HS0:=aA (aZ.start 26 w #[.slice AT G.ts.length cT,.slice AN G.ns.length cN,.slice AR G.rs.length cR,.int .i64 G.st])
 have g0:=HS0.out.c 0 _ rfl
 have g1:=HS0.out.c 1 _ rfl
 have g2:=HS0.out.c 2 _ rfl
 have g3:=HS0.out.c 3 _ rfl
 clear hf hl hin hlen
 cases hr:Gm.right G
 ·have HQ:=aA (show Au.closL G l=[] by unfold Au.closL;rw[if_neg (by rw[hr];decide)])
  rw[hr]at HR
  clear hr HA
  go_enter Tryz.func15,Tryz.ntmps15
  go_wp2_with fail
  refine(HR.out _ HS0.out.below).mono ?_;rintro _ w2 ⟨rfl,hb⟩
  have HB:=aA (HS0.out.on hb)
  clear hb g0 g1 g2 g3
  go_wp2
  go_ret
  exact⟨_,rfl,by rw[HQ.out];exact aI.nil _ _,HB.out.below⟩
 ·have HQ:=aA (show Au.closL G l=Au.clo G (l.filter (Au.isI G)) by unfold Au.closL;rw[if_pos hr])
  have HA:=aA (HA.out (Gm.right_ok.1 hr))
  rw[hr]at HR
  clear hr
  go_enter Tryz.func15,Tryz.ntmps15
  go_wp2_with fail
  refine(HR.out _ HS0.out.below).mono ?_;rintro _ w2 ⟨rfl,hb⟩
  have HB:=aA (HS0.out.on hb)
  have g0:=HB.out.c 0 _ rfl
  have g1:=HB.out.c 1 _ rfl
  have g2:=HB.out.c 2 _ rfl
  have g3:=HB.out.c 3 _ rfl
  clear hb
  go_wp2_with fail
  refine(HA.out _ HB.out.below).mono ?_;rintro _ w3 ⟨v',rfl,ho,hb⟩
  have HO:=aA (ho.mono HB.out.below.size)
  have HB3:=aA (HB.out.on hb)
  obtain⟨A3,c3,rfl,_⟩:=aI.form ho aG
  clear ho hb g0 g1 g2 g3
  go_wp2
  go_ret
  exact⟨_,rfl,by rw[HQ.out];exact HO.out,HB3.out.below⟩
theorem zeT (k:List Au.It) (A:Option Addr) (c B:Nat) (w:World) (hk:RdQ 2 prF w B A k) (hB:B≤w.heap.size) (hb:∀z∈Au.txt k,0≤z∧z≤255) (hl:k.length≤1000) :
  Calls Tryz.prog 61 #[.slice A k.length c] w fun e w'=>e=.returned (.string (K.str (Au.txt k)))∧Below w.heap.size w w':=by
 have HK:=aA hk
 have HB:=aA hB
 have HBY:=aA hb
 have hl2:(k.length:Int)≤1000:=by omega
 clear hk hB hb
 go_enter Tryz.func61,Tryz.ntmps61
 go_wp2
 go_loopw [3,8] (fun vb vi wr=>∃i:Nat,i≤k.length∧vi=.int .i64 i∧Hid (bK wr w.heap.size vb (Au.txt (k.take i)))∧Hid (Below w.heap.size w wr)) (fun _ vi _=>k.length-(intOf vi).toNat)
 case atStart=>exact⟨0,Nat.zero_le _,rfl,aA (bK.nil _ _),aA (Below.refl _ _)⟩
 case round =>
  obtain⟨i,hi,rfl,HO,HW⟩:=hrel
  obtain⟨A1,c1,rfl,hlc,hmc,hrd⟩:=bK.form HO.out
  by_cases hlt:i<k.length
  ·obtain⟨g,o,rfl,hgB,hc⟩:=HK.out (by omega)
   have hgw:g<w.heap.size:=Nat.lt_of_lt_of_le hgB HB.out
   have k0:wr.cell? ⟨g,o+i*2,none⟩=some (.int .i64 (k[i]).1):=(HW.out.cell (p:=⟨g,o+i*2,none⟩) hgw).trans (hc i hlt 0 _ rfl)
   have k1:wr.cell? ⟨g,o+i*2+1,none⟩=some (.int .i64 (k[i]).2):=(HW.out.cell (p:=⟨g,o+i*2+1,none⟩) hgw).trans (hc i hlt 1 _ rfl)
   have HTK:Hid (Au.txt (k.take (i+1))=Au.txt (k.take i)++[(k[i]).1+1,(k[i]).2]):=aA (by rw[List.take_succ_eq_append_getElem hlt,Au.txt_snoc])
   have h1:=HBY.out ((k[i]).1+1) (List.mem_flatMap.2 ⟨k[i],List.getElem_mem hlt,by simp⟩)
   have h2:=HBY.out (k[i]).2 (List.mem_flatMap.2 ⟨k[i],List.getElem_mem hlt,by simp⟩)
   have HLT:Hid ((Au.txt (k.take i)).length≤2000):=aA (by rw[Au.txt_len,List.length_take];omega)
   clear hc hrd
   generalize k[i]=x at *
   generalize Au.txt (k.take i)=t at *
   have hw1:IntKind.i64.wrap (x.1 - -1)=x.1+1:=by rw[IntWalk.i64_in _ (by omega)];omega
   have hw2:IntKind.u8.wrap (x.1+1)=x.1+1:=IntWalk.u8_in _ (by omega)
   have hw3:IntKind.u8.wrap x.2=x.2:=IntWalk.u8_in _ (by omega)
   have HO1:=aA ((HO.out.alloc (.cells #[.int .i64 x.1,.int .i64 x.2] 33)).alloc (zdG [x.1+1,x.2]))
   have hlb:=(zjN (wr.alloc (.cells #[.int .i64 x.1,.int .i64 x.2] 33)) [x.1+1,x.2]).1
   rw[show(wr.alloc (.cells #[.int .i64 x.1,.int .i64 x.2] 33)).heap.size=wr.heap.size+1 by simp]at hlb
   have HLB:=aA hlb
   clear hlb
   have HW1:Hid (Below w.heap.size w ((wr.alloc (.cells #[.int .i64 x.1,.int .i64 x.2] 33)).alloc (zdG [x.1+1,x.2]))):=aA ((HW.out.alloc HW.out.size _).alloc (by have:=HW.out.size;simp;omega) _)
   have HZ:=aA HW.out.size
   go_wp2_with (at_builtin;refine zhB rfl (.tmp 12) (.tmp 20) _ rfl Tryz.underlying58 w.heap.size _ t rfl HO1.out _ 2 2 _ [x.1+1,x.2] rfl rfl HLB.out (by have:=HLT.out;simp;omega) HW1.out.size ?_;intro v2 w2 ho2 hg2)
   have HO2:=aA ho2
   have HW2:=aA (HW1.out.grown hg2 HW1.out.size (fun k e=>(World.ownsRow.lt HO1.out k e).1))
   clear ho2 hg2
   go_roundw
   case rel=>exact⟨i+1,hlt,by go_num,aA (by rw[HTK.out];exact HO2.out),HW2⟩
   case measure=>simp[intOf];omega
  ·obtain rfl:i=k.length:=by omega
   rw[List.take_length]at *
   have HBB:Hid (K.Bytes (Au.txt k)):=aA (fun z hz=>by have:=HBY.out z hz;omega)
   have cv:=zbi hrd HBB.out c1
   generalize he:Au.txt k=t at *
   have HE:=aA he
   clear hrd he
   go_wp2
   go_ret
   exact⟨by rw[HE.out];rfl,HW.out⟩
def bF (T:TypeId) (w:World) (base N:Nat) (A:Option Addr) (xs:List (Int×Int)):Prop :=
 xs.length≠0→∃(g:Nat) (cur:Array Value),A=some ⟨g,0,none⟩∧base≤g∧g<N∧w.heap[g]?=some (.cells cur T (0,0))∧∀i (h:i<xs.length) j u,(prF xs[i])[j]?=some u→cur[i*2+j]?=some u
theorem bF.nil (T:TypeId) (w:World) (base N:Nat) (A:Option Addr):bF T w base N A []:=fun h=>absurd rfl h
theorem bF.keep {T:TypeId} {w w':World} {base N:Nat} {A:Option Addr} {xs:List (Int×Int)} (h:bF T w base N A xs) (hk:∀g cur,g<N→w.heap[g]?=some (.cells cur T (0,0))→w'.heap[g]?=some (.cells cur T (0,0))):bF T w' base N A xs:=fun hn=>by
 obtain⟨g,cur,e,hb,hN,hh,hc⟩:=h hn
 exact⟨g,cur,e,hb,hN,hk g cur hN hh,hc⟩
theorem bF.keepLo {T:TypeId} {w w':World} {base N:Nat} {A:Option Addr} {xs:List (Int×Int)} (h:bF T w base N A xs) (hk:∀g cur,base≤g→g<N→w.heap[g]?=some (.cells cur T (0,0))→w'.heap[g]?=some (.cells cur T (0,0))):bF T w' base N A xs:=fun hn=>by
 obtain⟨g,cur,e,hb,hN,hh,hc⟩:=h hn
 exact⟨g,cur,e,hb,hN,hk g cur hb hN hh,hc⟩
theorem bF.more {T:TypeId} {w:World} {base N N':Nat} {A:Option Addr} {xs:List (Int×Int)} (h:bF T w base N A xs) (hN:N≤N'):bF T w base N' A xs:=fun hn=>by
 obtain⟨g,cur,e,hb,h1,hh⟩:=h hn
 exact⟨g,cur,e,hb,by omega,hh⟩
theorem bF.less {T:TypeId} {w:World} {base base' N:Nat} {A:Option Addr} {xs:List (Int×Int)} (h:bF T w base N A xs) (hb:base'≤base):bF T w base' N A xs:=fun hn=>by
 obtain⟨g,cur,e,h1,hN,hh⟩:=h hn
 exact⟨g,cur,e,by omega,hN,hh⟩
theorem bF.rd {T:TypeId} {w:World} {base N:Nat} {A:Option Addr} {xs:List (Int×Int)} (h:bF T w base N A xs):RdQ 2 prF w N A xs:=fun hn=>by
 obtain⟨g,cur,e,hb,hN,hh,hc⟩:=h hn
 refine⟨g,0,e,hN,fun i hi j u hu=>?_⟩
 rw[cell_of_row w g _ _ _ _ hh,Nat.zero_add]
 exact hc i hi j u hu
theorem aI.rowP {T:TypeId} {w:World} {base n c:Nat} {A:Option Addr} {xs:List (Int×Int)} (h:aI T 2 prF w base (.slice A n c) xs):bF T w base w.heap.size A xs:=fun hn=>by
 rcases h.2 with⟨e,h0⟩|⟨g,cap,cur,e,hb,hg,h1,hm,hs,ht⟩
 ·exact absurd h0 hn
 ·injection e with e1 e2 e3
  refine⟨g,cur,e1,hb,(Array.getElem?_eq_some_iff.1 hg).1,hg,fun i hi j u hu=>?_⟩
  have hj:j<2:=by rw[←aG xs[i]];exact(List.getElem?_eq_some_iff.1 hu).1
  have h2:(cur.toList.take (xs.length*2))[i*2+j]?=(xs.flatMap prF)[i*2+j]?:=by rw[ht]
  rw[List.getElem?_take_of_lt (by omega),Array.getElem?_toList,qat aG xs i j hi hj]at h2
  rw[h2];exact hu
abbrev QP:=List (Int×Int)×Option Addr×Nat
abbrev QS:=QP×QP
def qpC (q:QP):Value:=.slice q.2.1 q.1.length q.2.2
def stC (q:QS):List Value:=[qpC q.1,qpC q.2]
theorem zae (q:QS):(stC q).length=2:=rfl
theorem zfF (q:QS):∀u∈stC q,u.oneCell'=true:=fun u hu=>by
 simp[stC]at hu
 rcases hu with rfl|rfl <;> rfl
def zhJ (q:QS):StT:=(q.1.1,q.2.1)
def zgM (T:TypeId) (w:World) (base N:Nat) (q:QP):Prop:=q.1.length≤q.2.2∧q.2.2≤9223372036854775807∧bF T w base N q.2.1 q.1
def zhF (w:World) (base N NE:Nat) (q:QS):Prop:=zgM 33 w base N q.1∧zgM 52 w base NE q.2
def za1 (w:World) (base N NE:Nat) (v:Value) (qs:List QS):Prop:=aI 50 2 stC w base v qs∧∀q∈qs,zhF w base N NE q
theorem zhQ:(Tryz.prog.info? 50).map (fun i=>(i.zero,i.size,i.bytes))=some (some (.agg #[.slice none 0 0,.slice none 0 0]),2,48):=by kernel_rfl
theorem zgi:(Tryz.prog.info? 52).map (fun i=>(i.zero,i.size,i.bytes))=some (some (.agg #[.int .i64 0,.int .i64 0]),2,16):=by kernel_rfl
theorem zhF.keep {w w':World} {base N NE:Nat} {q:QS} (h:zhF w base N NE q) (hk:∀g cur T,((T=33∧g<N)∨(T=52∧g<NE))→w.heap[g]?=some (.cells cur T (0,0))→w'.heap[g]?=some (.cells cur T (0,0))):zhF w' base N NE q :=
 ⟨⟨h.1.1,h.1.2.1,h.1.2.2.keep fun g cur hg hc=>hk g cur _ (.inl ⟨rfl,hg⟩) hc⟩,⟨h.2.1,h.2.2.1,h.2.2.2.keep fun g cur hg hc=>hk g cur _ (.inr ⟨rfl,hg⟩) hc⟩⟩
theorem zhF.more {w:World} {base N N' NE NE':Nat} {q:QS} (h:zhF w base N NE q) (hN:N≤N') (hE:NE≤NE'):zhF w base N' NE' q:=⟨⟨h.1.1,h.1.2.1,h.1.2.2.more hN⟩,⟨h.2.1,h.2.2.1,h.2.2.2.more hE⟩⟩
theorem za1.nil (w:World) (base N NE:Nat):za1 w base N NE (.slice none 0 0) []:=⟨aI.nil w base,by simp⟩
theorem za1.below {w w':World} {base N NE:Nat} {v:Value} {qs:List QS} (h:za1 w base N NE v qs) (hb:Below w.heap.size w w'):za1 w' base N NE v qs :=
 ⟨h.1.below hb (Nat.le_refl _),fun q hq=>(h.2 q hq).keep fun g _ _ _ hc=>(hb.block g (Array.getElem?_eq_some_iff.1 hc).1).trans hc⟩
theorem za1.rd {w:World} {base N NE n c:Nat} {A:Option Addr} {qs:List QS} (h:za1 w base N NE (.slice A n c) qs) (hN:N≤w.heap.size) (hE:NE≤w.heap.size):bI w w.heap.size A (qs.map zhJ):=fun hn=>by
 have hn:qs.length≠0:=by simpa using hn
 obtain⟨A',c',e,_,_,hrd⟩:=aI.form h.1 zae
 injection e with e1 e2 e3
 subst e1
 obtain⟨g,o,e,hg,hc⟩:=hrd hn
 refine⟨g,o,e,hg,fun i hi=>?_⟩
 have hi':i<qs.length:=by simpa using hi
 have hq:=h.2 _ (List.getElem_mem hi')
 rw[List.getElem_map]
 exact⟨⟨_,_,hc i hi' 0 _ rfl,hq.1.1,hq.1.2.1,hq.1.2.2.rd.more hN⟩,⟨_,_,hc i hi' 1 _ rfl,hq.2.1,hq.2.2.1,hq.2.2.2.rd.more hE⟩⟩
theorem zi3 (qs:List QS) (i:Nat) (y:QS) (hy:∀h:i<qs.length,y.1=(qs[i]).1):(qs.flatMap stC).set (i*2+1) (qpC y.2)=(qs.set i y).flatMap stC:=by
 induction qs generalizing i with
 | nil=>simp
 | cons x r ih =>
  cases i with
  | zero =>
   have this:y.1=x.1:=hy (by simp)
   simp[stC,this]
  | succ i =>
   have ih:=ih i fun h=>hy (Nat.succ_lt_succ h)
   rw[show(i+1)*2+1=(i*2+1)+1+1 by omega]
   simp only[List.flatMap_cons,stC,List.cons_append,List.nil_append,List.set_cons_succ]
   rw[ih]
theorem za1.set1 {w:World} {base N NE g n c:Nat} {qs:List QS} (h:za1 w base N NE (.slice (some ⟨g,0,none⟩) n c) qs) (i:Nat) (y:QS) (hi:i<qs.length) (hy:y.1=(qs[i]).1) (hq:zhF w base N NE y):za1 (w.setCell ⟨g,i*2+1,none⟩ (qpC y.2)) base N NE (.slice (some ⟨g,0,none⟩) n c) (qs.set i y):=by
 have hk:∀g' cur T,((T=33∧g'<N)∨(T=52∧g'<NE))→w.heap[g']?=some (.cells cur T (0,0))→(w.setCell ⟨g,i*2+1,none⟩ (qpC y.2)).heap[g']?=some (.cells cur T (0,0))   := fun g' cur T hT hc=>by
  refine(Below.heap_setCell w ⟨g,i*2+1,none⟩ _ g' (fun e=>?_)).trans hc
  have e:g'=g:=e
  subst e
  rcases h.1.2 with⟨e,_⟩|⟨g2,cap,cur2,e,hb,hg,_⟩
  ·cases e
  ·injection e with e _ _
   injection e with e
   injection e with e
   subst e
   rw[hg]at hc
   injection hc with hc
   injection hc with _ hc _
   rcases hT with⟨rfl,_⟩|⟨rfl,_⟩ <;> exact absurd hc (by decide)
 refine⟨?_,fun q hq'=>?_⟩
 ·rcases h.1.2 with⟨e,_⟩|⟨g2,cap,cur,e,hb,hg,h1,hm,hs,ht⟩
  ·cases e
  ·injection e with e1 e2 e3
   injection e1 with e1
   injection e1 with e1
   subst e1 e3
   have hl:(qs.set i y).length=qs.length:=List.length_set
   unfold aI
   rw[hl]
   refine⟨by rw[zfa zae,hl],.inr ⟨g,c,cur.setIfInBounds (i*2+1) (qpC y.2),by rw[e2],hb,heap_setCell_same w g _ _ _ _ hg,h1,hm,by simp[hs],?_⟩⟩
   rw[←zi3 qs i y (fun _=>hy),←ht]
   simp only[Array.toList_setIfInBounds]
   rw[List.take_set]
 ·rcases List.mem_or_eq_of_mem_set hq' with q'|q'
  ·exact(h.2 q q').keep hk
  ·rw[q'];exact hq.keep hk
def zeR (p:Addr) (w:World):Type:={x:World // x.cell? p=w.cell? p}
instance (p:Addr) (w:World):Nonempty (zeR p w):=⟨⟨w,rfl⟩⟩
theorem zd5 {P:Program} {w:World} {o:Oper} {a:Act} {Q:Exit→Act→World→Prop} {K:Act→World→Prop}
  (m x:Operand) (t:TypeId) (hop:o.op=Op.mapEntry t m x) {mv xv r:Value} {w':World} (h:(Instr.mapEntry t mv xv).run P w=.ok r w') (hm:a.eval m=mv) (hx:a.eval x=xv)
  (hK:K (a.put o.dst r) w'):o.wp P a w K Q:=by
 unfold Oper.wp
 simp[execOp,hop,hm,hx,h,Result.andThen]
 exact hK
theorem zfn {P:Program} {w:World} {o:Oper} {a:Act} {Q:Exit→Act→World→Prop} {K:Act→World→Prop}
  (m x v:Operand) (t:TypeId) (hop:o.op=Op.entryStore t m x v) {mv xv vv:Value} {w':World} (h:(Instr.entryStore t mv xv vv).run P w=.ok () w') (hm:a.eval m=mv) (hx:a.eval x=xv) (hv:a.eval v=vv)
  (hK:K (a.put o.dst undef) w'):o.wp P a w K Q:=by
 unfold Oper.wp
 simp[execOp,hop,hm,hx,hv,h,Result.andThen]
 exact hK
structure KeepN (R M:Nat) (w w':World):Prop where
 size:w.heap.size≤w'.heap.size
 keep:∀(g:Nat) (o:Obj),w.heap[g]?=some o→g≠R→g≠M→(∀cur fr,o ≠ .cells cur 50 fr)→w'.heap[g]?=some o
section
variable {R M:Nat} {w w' w2:World}
theorem KeepN.refl (R M:Nat) (w:World):KeepN R M w w:=⟨Nat.le_refl _,fun _ _ h _ _ _=>h⟩
theorem KeepN.trans (h:KeepN R M w w') (k:KeepN R M w' w2):KeepN R M w w2:=⟨Nat.le_trans h.size k.size,fun g o h1 h2 h3 h4=>k.keep g o (h.keep g o h1 h2 h3 h4) h2 h3 h4⟩
theorem KeepN.below (h:Below w.heap.size w w'):KeepN R M w w':=⟨h.size,fun g _ h1 _ _ _=>(h.block g (Array.getElem?_eq_some_iff.1 h1).1).trans h1⟩
theorem KeepN.own {base n:Nat} {v:Value} {xs:List Value} (h:w.ownsRow base 50 2 v n xs) (hg:w.grownBy w' v.ownBlock):KeepN R M w w':=⟨hg.size,fun _ _ h1 _ _ h4=>aQ h hg h1 fun cur=>h4 cur _⟩
theorem KeepN.map (hg:w.grownBy w' (some M)):KeepN R M w w':=⟨hg.size,fun g _ h1 _ h3 _=>(hg.block g (Array.getElem?_eq_some_iff.1 h1).1 (fun e=>by injection e with e;exact h3 e)).trans h1⟩
theorem KeepN.set (i:Nat) (u:Value):KeepN R M w (w.setCell ⟨R,i,none⟩ u):=⟨by simp,fun g _ h1 h2 _ _=>(Below.heap_setCell w ⟨R,i,none⟩ u g h2).trans h1⟩
theorem KeepN.setSt {g i:Nat} {cs:Array Value} {fr:Nat×Nat} (h:w.heap[g]?=some (.cells cs 50 fr)) (u:Value):KeepN R M w (w.setCell ⟨g,i,none⟩ u):=⟨by simp,fun g' _ h1 _ _ h4=>(Below.heap_setCell w ⟨g,i,none⟩ u g' (fun e=>by
 have e:g'=g:=e
 rw[e,h]at h1
 injection h1 with h1
 exact h4 _ _ h1.symm)).trans h1⟩
end
def abC (g0 g1 g2 g3 vS:Value) (M:Nat):Array Value:=#[g0,g1,g2,g3,vS,.map (some M)]
def aV (qs:List QS):List (List Au.It):=qs.map fun q=>q.1.1
structure ABd (w:World) (base R M NE:Nat) (g0 g1 g2 g3:Value) (qs:List QS):Prop where
 b:∃vS,w.heap[R]?=some (.cells (abC g0 g1 g2 g3 vS M) 64 (0,0))∧za1 w base w.heap.size NE vS qs
 m:∃l,Mw.MapSt zdM w M l∧Au.NumOk l (aV qs)
 hR:base≤R
 hM:base≤M
def bC (k:List Au.It) (A:Option Addr) (c:Nat):QS:=((k,A,c),([],none,0))
def zgO (qs:List QS) (k:List Au.It) (A:Option Addr) (c:Nat):List QS:=if Au.fnd (aV qs) k<0 then qs++[bC k A c] else qs
def zhf (qs:List QS) (k:List Au.It):Int:=if Au.fnd (aV qs) k<0 then(qs.length:Int) else Au.fnd (aV qs) k
section
variable {w w':World} {base R M NE:Nat} {g0 g1 g2 g3:Value} {qs:List QS}
theorem ABd.below (h:ABd w base R M NE g0 g1 g2 g3 qs) (hb:Below w.heap.size w w'):ABd w' base R M NE g0 g1 g2 g3 qs:=by
 obtain⟨⟨vS,h1,h2⟩,⟨l,h3,h4⟩,h5,h6⟩:=h
 have h7:=h2.below hb
 exact⟨⟨vS,aE hb h1,h7.1,fun q hq=>(h7.2 q hq).more hb.size (Nat.le_refl _)⟩,⟨l,h3.block (hb.block _ h3.lt),h4⟩,h5,h6⟩
theorem ABd.more {NE':Nat} (h:ABd w base R M NE g0 g1 g2 g3 qs) (hE:NE≤NE'):ABd w base R M NE' g0 g1 g2 g3 qs:=by
 obtain⟨⟨vS,h1,h2⟩,h3,h5,h6⟩:=h
 exact⟨⟨vS,h1,h2.1,fun q hq=>(h2.2 q hq).more (Nat.le_refl _) hE⟩,h3,h5,h6⟩
theorem ABd.base_le (h:ABd w base R M NE g0 g1 g2 g3 qs):base≤w.heap.size:=by
 obtain⟨⟨vS,h1,_⟩,_,h5,_⟩:=h
 have:=(Array.getElem?_eq_some_iff.1 h1).1
 omega
end
theorem zgg {R M:Nat} {w w':World} (h:KeepN R M w w') {cs:Array Value} (hR:w.heap[R]?=some (.cells cs 64 (0,0))) (hM:∀(cur:Array Value) (T:TypeId),w.heap[M]? ≠ some (.cells cur T (0,0))):∀(g:Nat) (cur:Array Value) (T:TypeId),(T=33∨T=52)→w.heap[g]?=some (.cells cur T (0,0))→w'.heap[g]?=some (.cells cur T (0,0)):=fun g cur T hT hc=>by
 refine h.keep g _ hc (fun e=>?_) (fun e=>hM cur T (by rw[←e];exact hc)) fun cur' fr e=>?_
 ·rw[e,hR]at hc
  injection hc with hc
  injection hc with _ hc _
  rcases hT with rfl|rfl <;> exact absurd hc (by decide)
 ·injection e with _ e _
  rcases hT with rfl|rfl <;> exact absurd e (by decide)
theorem zch (w:World) (base R M NE:Nat) (g0 g1 g2 g3:Value) (qs:List QS) (k:List Au.It) (A:Option Addr) (c:Nat) (h:ABd w base R M NE g0 g1 g2 g3 qs) (hk:zgM 33 w base w.heap.size (k,A,c)) (hb:∀z∈Au.txt k,0≤z∧z≤255) (hl:k.length≤1000) (hq:qs.length≤100000) :
  Calls Tryz.prog 34 #[.pointer (some ⟨R,0,none⟩),.slice A k.length c] w fun e w'=>e=.returned (.int .i64 (zhf qs k))∧ABd w' base R M NE g0 g1 g2 g3 (zgO qs k A c)∧Below base w w'∧KeepN R M w w':=by
 have HT:=aA (zeT k A c w.heap.size w hk.2.2.rd (Nat.le_refl _) hb hl)
 have HBL:=aA h.base_le
 have HH:=aA h
 have HK:=aA hk
 have HQ:=aA hq
 have HTX:Hid (K.Tx (Au.txt k)):=aA ⟨fun z hz=>by have:=hb z hz;omega,by rw[Au.txt_len];omega⟩
 by_cases hf:Au.fnd (aV qs) k<0
 ·have HF:=aA hf
  have HI:Hid (zhf qs k=(qs.length:Int)):=aA (by unfold zhf;rw[if_pos hf])
  have HQS:Hid (zgO qs k A c=qs++[bC k A c]):=aA (by unfold zgO;rw[if_pos hf])
  clear h hk hb hl hf hq
  rw[HI.out,HQS.out]
  go_enter Tryz.func34,Tryz.ntmps34
  go_wp2_with fail
  refine HT.out.mono ?_;rintro _ w1 ⟨rfl,hb1⟩
  have HB1:=aA hb1
  have HH1:=aA (HH.out.below hb1)
  obtain⟨⟨vS,h1,h2⟩,⟨l,h3,h4⟩,h5,h6⟩:=HH1.out
  obtain⟨AS,cq,rfl,hlc,hmc,_⟩:=aI.form h2.1 zae
  have cM:w1.cell? ⟨R,5,none⟩=some (.map (some M)):=cell_of_row w1 R 5 _ _ _ h1
  have cS:w1.cell? ⟨R,4,none⟩=some (.slice AS qs.length cq):=cell_of_row w1 R 4 _ _ _ h1
  have hasc:Mw.asc l (Au.txt k)=none:=by rw[h4 k,if_pos HF.out]
  have hkey:zdM.enc (Au.txt k)=.string (K.str (Au.txt k)):=rfl
  have lk:=Mw.run_look (E:=zdM) h3.is ziV (t:=62) Tryz.underlying62 (z:=.int .i64 0) (by kernel_rfl) (x:=Au.txt k) HTX.out true
  rw[hasc,hkey]at lk
  simp at lk
  have H1:=aA h1
  have H1w:=aA h1
  have H2:=aA h2
  have H3:=aA h3
  have H4:=aA h4
  have H5:=aA h5
  have H6:=aA h6
  have HASC:=aA hasc
  have HOL:=aA (fun k (e:(Value.slice AS qs.length cq).ownBlock=some k)=>(World.ownsRow.lt h2.1 k e).1)
  have HMR:Hid (M≠R):=aA (fun e=>by rw[←e]at h1;exact h3.is.not_cells h1)
  have hqI:(qs.length:Int)≤100000:=by have:=HQ.out;omega
  have hRl:=(Array.getElem?_eq_some_iff.1 h1).1
  have fR:=frozen_of_row w1 R 4 _ _ h1
  clear h1 h2 h3 h4 h5 h6 hb1 hasc
  generalize K.str (Au.txt k)=str at *
  go_upto_region 5 with fail
  have qM:∀y:zeR ⟨R,5,none⟩ w1,y.1.cell? ⟨R,5,none⟩=some (.map (some M)):=fun y=>y.2.trans cM
  have HSK:Hid (∀y:World,y.cell? ⟨R,5,none⟩=w1.cell? ⟨R,5,none⟩→∃z:zeR ⟨R,5,none⟩ w1,y=z.1):=aA (fun y e=>⟨⟨y,e⟩,rfl⟩)
  have HSX:=aA (HSK.out w1.drew rfl)
  clear lk fR hlc hmc
  refine CalmN.region_tree (fun x=>∃y:zeR ⟨R,5,none⟩ w1,x=y.1) (.two [0,1,2,3,4,5,6,7,8,9,11,12] 10 (.one [] 13 (.one [] 14 (.one [] 15 (.one [16] 17 (.one [18,19] 20 (.fin [])))))) 13 (.one [] 10 (.one [] 14 (.one [] 15 (.one [16] 17 (.one [18,19] 20 (.fin []))))))) (by kernel_rfl) (by kernel_rfl) (fun _ _ d _ _ h=>by cases d <;> exact h) HSX.out ?_
  rw[CalmN.wpT]
  simp only[CalmN.pickOps,List.getElem?_toArray,List.getElem?_cons_zero,List.getElem?_cons_succ]
  repeat (go_big_quiet_step (fail))
  have HBD:Hid (Below w1.heap.size w1 w1.drew):=aA (aB (Below.refl _ _) 1)
  have H1:Hid (w1.drew.heap[R]?=some (.cells (abC g0 g1 g2 g3 (.slice AS qs.length cq) M) 64 (0,0))):=H1
  have H2D:Hid (aI 50 2 stC w1.drew base (.slice AS qs.length cq) qs):=aA H2.out.1
  have H3D:Hid (Mw.MapSt zdM w1.drew M l):=aA (H3.out.block rfl)
  have c4:w1.drew.cell? ⟨R,4,none⟩=some (.slice AS qs.length cq):=cS
  have HC5:Hid (w1.cell? ⟨R,5,none⟩=some (.map (some M))):=aA cM
  have hRl2:R<w1.drew.heap.size:=hRl
  clear qM cS cM
  generalize w1.drew=wd at *
  have HLA:Hid (Below wd.heap.size wd (wd.alloc (.cells #[.slice A k.length c,.slice none 0 0] 50))):=aA ((Below.refl _ _).alloc (Nat.le_refl _) _)
  have c4a:(wd.alloc (.cells #[.slice A k.length c,.slice none 0 0] 50)).cell? ⟨R,4,none⟩=some (.slice AS qs.length cq):=cell_of_row _ R 4 _ _ _ (aE HLA.out H1.out)
  have HS2:=aA (HSK.out (wd.alloc (.cells #[.slice A k.length c,.slice none 0 0] 50)) ((cell_of_row _ R 5 _ _ _ (aE HLA.out H1.out)).trans HC5.out.symm))
  refine wpQuiet_nil ⟨?_,?_⟩
  case' refine_1 =>
   simp only[CalmN.wpT,CalmN.wpSt,CalmN.pickOps,List.getElem?_toArray,List.getElem?_cons_zero,List.getElem?_cons_succ]
   intro KK hKK
   rw[if_pos (by rfl)]
   go_wp2_with fail
   refine hKK _ _ HSX.out _ (fun _ h=>h) HSX.out ?_
   clear hKK
   refine wpQuiet_nil ?_
   intro KK hKK
   rw[if_pos (by rfl)]
   go_wp2_with fail
   refine hKK _ _ HS2.out _ (fun _ h=>h) HS2.out ?_
   clear hKK
   refine wpQuiet_nil ?_
  case' refine_2 =>
   simp only[CalmN.wpT,CalmN.wpSt,CalmN.pickOps,List.getElem?_toArray,List.getElem?_cons_zero,List.getElem?_cons_succ]
   intro KK hKK
   rw[if_pos (by rfl)]
   go_wp2_with fail
   refine hKK _ _ HS2.out _ (fun _ h=>h) HS2.out ?_
   clear hKK
   refine wpQuiet_nil ?_
   intro KK hKK
   rw[if_pos (by rfl)]
   go_wp2_with fail
   refine hKK _ _ HS2.out _ (fun _ h=>h) HS2.out ?_
   clear hKK
   refine wpQuiet_nil ?_
  all_goals
   intro KK hKK
   rw[if_pos (by rfl)]
   have HO1:=aA (H2D.out.alloc (.cells #[.slice A k.length c,.slice none 0 0] 50))
   have b1:=aE HLA.out H1.out
   obtain⟨es,ck,hmb,hmr⟩:=H3D.out
   have bM:=aE HLA.out hmb
   have hnew:=heap_alloc_new wd (.cells #[.slice A k.length c,.slice none 0 0] 50)
   have HB1a:Hid (Below base w (wd.alloc (.cells #[.slice A k.length c,.slice none 0 0] 50))):=aA (((HB1.out.mono HBL.out).trans (HBD.out.mono (Nat.le_trans HBL.out HB1.out.size))).trans (HLA.out.mono (Nat.le_trans HBL.out (Nat.le_trans HB1.out.size HBD.out.size))))
   clear c4 c4a
   refine zh1 (f:=stC) (.tmp 36) (.tmp 39) _ rfl Tryz.underlying38 _ 48 zhQ (by decide) (by decide) (by decide) zae zfF base _ qs rfl HO1.out _ _ (bC k A c) rfl (fun j u hu=>?_) (by have:=HQ.out;omega) (Nat.le_trans HBL.out HB1a.out.size) ?_
   ·refine(cell_of_row _ wd.heap.size j _ _ _ hnew).trans ?_
    match j,hu with
    | 0,hu=>exact hu
    | 1,hu=>exact hu
    | j+2,hu=>simp[stC]at hu
   intro v5 w5 ho5 hg5
   obtain⟨A5,c5,rfl,_,_,_⟩:=aI.form ho5 zae
   have r5:=aQ HO1.out hg5 b1 fun cur=>aO (by decide)
   have m5:=aQ HO1.out hg5 bM fun cur e=>by cases e
   have HM5:Hid (Mw.MapSt zdM w5 M l):=aA ⟨es,ck,m5,hmr⟩
   have HS5:=aA (HSK.out w5 ((cell_of_row w5 R 5 _ _ _ r5).trans HC5.out.symm))
   have HB5:Hid (Below base w w5):=aA (HB1a.out.grown hg5 (Nat.le_trans HBL.out HB1a.out.size) (fun k e=>(World.ownsRow.lt HO1.out k e).1))
   have HK5:Hid (KeepN R M w1 w5):=aA (((KeepN.below HBD.out).trans (.below HLA.out)).trans (.own HO1.out hg5))
   have HR5:=aA r5
   have HO5:=aA ho5
   obtain⟨c0,w6,hrun6,hh6,hg6⟩:=Mw.run_entry HM5.out ziV Tryz.underlying62 (z:=.int .i64 0) (by kernel_rfl) HTX.out HASC.out
   rw[hkey]at hrun6
   obtain⟨w7,hrun7,hm7,hg7⟩:=Mw.run_estore (t:=62) hh6 (.int .i64 (qs.length:Int))
   have r6:=(hg6.block R (Array.getElem?_eq_some_iff.1 r5).1 (fun e=>by injection e with e;exact HMR.out e.symm)).trans r5
   have r7:=(hg7.block R (Array.getElem?_eq_some_iff.1 r6).1 (fun e=>by injection e with e;exact HMR.out e.symm)).trans r6
   have HS6:=aA (HSK.out w6 ((cell_of_row w6 R 5 _ _ _ r6).trans HC5.out.symm))
   have HS7:=aA (HSK.out w7 ((cell_of_row w7 R 5 _ _ _ r7).trans HC5.out.symm))
   have hbs:=Nat.le_trans HBL.out HB5.out.size
   have HB7:Hid (Below base w w7):=aA (zai (zai HB5.out hg6 H6.out (Nat.le_trans HBL.out HB5.out.size)) hg7 H6.out (Nat.le_trans (Nat.le_trans HBL.out HB5.out.size) hg6.size))
   have HRUN6:=aA hrun6
   have HRUN7:=aA hrun7
   have c47:w7.cell? ⟨R,4,none⟩=some (.slice AS qs.length cq):=cell_of_row w7 R 4 _ _ _ r7
   have f47:=frozen_of_row w7 R 4 _ _ r7
   have l47:=(Array.getElem?_eq_some_iff.1 r7).1
   obtain⟨es6,z6,hmb6,_⟩:=hh6
   have hm7':=hm7
   obtain⟨es7,ck7,hmb7,_⟩:=hm7
   have o6:=World.ownsRow.kept HO5.out hg6 (zav HO5.out m5 fun cur e=>by cases e)
   have o7:=World.ownsRow.kept o6 hg7 (zav o6 hmb6 fun cur e=>by cases e)
   have o8:aI 50 2 stC (w7.setCell ⟨R,4,none⟩ (.slice A5 (qs++[bC k A c]).length c5)) base (.slice A5 (qs++[bC k A c]).length c5) (qs++[bC k A c]):=World.ownsRow.kept o7 (aD (World.grownBy.refl _ _) 4 _) (zav o7 r7 fun cur=>aO (by decide))
   have HK8:Hid (KeepN R M w1 (w7.setCell ⟨R,4,none⟩ (.slice A5 (qs++[bC k A c]).length c5))):=aA (((HK5.out.trans (.map hg6)).trans (.map hg7)).trans (.set 4 _))
   have hkr:=zgg HK8.out H1w.out (fun cur T=>H3.out.is.not_cells)
   have HP:Hid (ABd (w7.setCell ⟨R,4,none⟩ (.slice A5 (qs++[bC k A c]).length c5)) base R M NE g0 g1 g2 g3 (qs++[bC k A c])):=aA (by
    refine⟨⟨_,heap_setCell_same w7 R 4 _ _ _ r7,o8,fun q hq=>?_⟩,⟨_,hm7'.block (Below.heap_setCell w7 ⟨R,4,none⟩ _ M HMR.out),?_⟩,H5.out,H6.out⟩
    ·rcases List.mem_append.1 hq with hq|hq
     ·exact((H2.out.2 q hq).keep fun g cur T hT hc=>hkr g cur T (hT.imp (·.1) (·.1)) hc).more HK8.out.size (Nat.le_refl _)
     ·rw[List.mem_singleton.1 hq]
      exact⟨⟨HK.out.1,HK.out.2.1,((HK.out.2.2.keep fun g cur hg hc=>(HB1.out.block g hg).trans hc).keep fun g cur _ hc=>hkr g cur _ (.inl rfl) hc).more (Nat.le_trans HB1.out.size HK8.out.size)⟩,⟨Nat.zero_le _,Nat.zero_le _,bF.nil _ _ _ _ _⟩⟩
    ·have:=Au.NumOk.snoc H4.out HF.out
     have e1:(aV qs).length=qs.length:=by unfold aV;rw[List.length_map]
     have e2:aV (qs++[bC k A c])=aV qs++[k]:=by unfold aV;rw[List.map_append];rfl
     rw[e1]at this
     rw[e2];exact this)
   have HB8:Hid (Below base w (w7.setCell ⟨R,4,none⟩ (.slice A5 (qs++[bC k A c]).length c5))):=aA (HB7.out.setCell H5.out _)
   have HKW:Hid (KeepN R M w (w7.setCell ⟨R,4,none⟩ (.slice A5 (qs++[bC k A c]).length c5))):=aA ((KeepN.below HB1.out).trans HK8.out)
   have HS8:=aA (HSK.out (w7.setCell ⟨R,4,none⟩ (.slice A5 (qs++[bC k A c]).length c5)) ((cell_of_row _ R 5 _ _ _ (heap_setCell_same w7 R 4 _ _ _ r7)).trans HC5.out.symm))
   clear r5 m5 ho5 hg5 hrun6 hg6 hrun7 hg7 r6 r7 hmb6 hmb7 o6 o7 o8 hkr b1 bM hmb hmr hnew hm7' hbs
   generalize (qs++[bC k A c]).length=ln at *
   refine hKK _ _ HS5.out _ (fun _ h=>h) HS5.out ?_
   clear hKK
   refine wpQuiet_nil ?_
   intro KK hKK
   rw[if_pos (by rfl)]
   refine zd5 _ _ _ rfl HRUN6.out rfl rfl ?_
   refine hKK _ _ HS6.out _ (fun _ h=>h) HS6.out ?_
   clear hKK
   go_frame
   repeat (go_big_quiet_step (fail))
   refine wpQuiet_nil ?_
   intro KK hKK
   rw[if_pos (by rfl)]
   refine zfn _ _ _ _ rfl HRUN7.out rfl rfl rfl ?_
   refine hKK _ _ HS7.out _ (fun _ h=>h) HS7.out ?_
   clear hKK
   go_frame
   repeat (go_big_quiet_step (fail))
   refine wpQuiet_nil ?_
   intro KK hKK
   rw[if_pos (by rfl)]
   go_wp2_with fail
   refine hKK _ _ HS8.out _ (fun _ h=>h) HS8.out ?_
   clear hKK c47 f47 l47
   refine wpQuiet_nil ?_
   go_wp2
   go_ret
   exact⟨rfl,HP.out,HB8.out,HKW.out⟩
 ·have HI:Hid (zhf qs k=Au.fnd (aV qs) k):=aA (by unfold zhf;rw[if_neg hf])
  have HQS:Hid (zgO qs k A c=qs):=aA (by unfold zgO;rw[if_neg hf])
  have HF:=aA hf
  clear h hk hb hl hf hq
  rw[HI.out,HQS.out]
  go_enter Tryz.func34,Tryz.ntmps34
  go_wp2_with fail
  refine HT.out.mono ?_;rintro _ w1 ⟨rfl,hb1⟩
  have HB1:=aA hb1
  have HH1:=aA (HH.out.below hb1)
  obtain⟨⟨vS,h1,h2⟩,⟨l,h3,h4⟩,h5,h6⟩:=HH1.out
  have cM:w1.cell? ⟨R,5,none⟩=some (.map (some M)):=cell_of_row w1 R 5 _ _ _ h1
  have hasc:Mw.asc l (Au.txt k)=some (.int .i64 (Au.fnd (aV qs) k)):=by rw[h4 k,if_neg (by have:=HF.out;omega)]
  have hkey:zdM.enc (Au.txt k)=.string (K.str (Au.txt k)):=rfl
  have lk:=Mw.run_look (E:=zdM) h3.is ziV (t:=62) Tryz.underlying62 (z:=.int .i64 0) (by kernel_rfl) (x:=Au.txt k) HTX.out true
  rw[hasc,hkey]at lk
  simp at lk
  clear h1 h2 h3 h4 h5 h6 hb1 hasc
  generalize K.str (Au.txt k)=str at *
  go_wp2
  go_ret
  exact⟨rfl,HH1.out,HB1.out.mono HBL.out,.below HB1.out⟩
end Go.Proofs.YtabmfpgpkbndeaaGreat
namespace Go.Proofs.YtabmfpgpkbndeaaGreat
set_option maxRecDepth 100000
set_option maxHeartbeats 40000000
open Go.RowKit
structure MvSt (G:Gm.Gr) (w:World) (base D:Nat) (l:List Au.It):Prop where
 m:∃ml,Mw.MapIs zfi w D ml∧(∀s,(Mw.asc ml s=none∧Au.mv G l s=[]) ∨ ∃v,Mw.asc ml s=some v∧Au.mv G l s≠[]∧aI 33 2 prF w base v (Au.mv G l s)) ∧
  ∀s s' v v',s≠s'→Mw.asc ml s=some v→Mw.asc ml s'=some v'→v'.ownBlock≠v.ownBlock
theorem zeq {T:TypeId} {m:Nat} {α:Type} {f:α→List Value} {w:World} {base:Nat} {v:Value} {xs:List α} (h:aI T m f w base v xs) (h0:xs≠[]):∃g,v.ownBlock=some g∧base≤g∧g<w.heap.size:=by
 rcases h.2 with⟨_,h1⟩|⟨g,cap,cur,rfl,hb,hg,_⟩
 ·exact absurd (List.eq_nil_of_length_eq_zero h1) h0
 ·exact⟨g,rfl,hb,(Array.getElem?_eq_some_iff.1 hg).1⟩
section
variable {G:Gm.Gr} {w w' w2:World} {base D:Nat} {l:List Au.It}
theorem MvSt.start (G:Gm.Gr) (w:World) (base:Nat) (h:Mw.MapIs zfi w D []):MvSt G w base D []:=⟨[],h,fun s=>.inl ⟨rfl,rfl⟩,fun _ _ _ _ _ h=>by cases h⟩
theorem MvSt.keep (h:MvSt G w base D l) (hD:w'.heap[D]?=w.heap[D]?) (hk:∀g cur,base≤g→w.heap[g]?=some (.cells cur 33 (0,0))→w'.heap[g]?=some (.cells cur 33 (0,0))):MvSt G w' base D l:=by
 obtain⟨ml,h1,h2,h3⟩:=h
 refine⟨ml,h1.block hD,fun s=>?_,h3⟩
 rcases h2 s with q|⟨v,q1,q2,q3⟩
 ·exact .inl q
 ·refine .inr ⟨v,q1,q2,?_⟩
  refine⟨q3.1,?_⟩
  rcases q3.2 with h0|⟨g,cap,cur,e,hb1,hg,hr⟩
  ·exact .inl h0
  ·exact .inr ⟨g,cap,cur,e,hb1,hk g cur hb1 hg,hr⟩
theorem MvSt.below (h:MvSt G w base D l) (hb:Below w.heap.size w w'):MvSt G w' base D l:=h.keep (by obtain⟨ml,h1,_⟩:=h.m;exact hb.block _ h1.lt) fun g _ _ hg=>(hb.block g (Array.getElem?_eq_some_iff.1 hg).1).trans hg
theorem MvSt.skip (h:MvSt G w base D l) {x:Au.It} (hx:Au.nx G x=none):MvSt G w base D (l++[x]):=by
 obtain⟨ml,h1,h2,h3⟩:=h
 refine⟨ml,h1,fun s=>?_,h3⟩
 have e:Au.mv G (l++[x]) s=Au.mv G l s:=by rw[Au.mv_app,Au.mv_one_no (by rw[hx];simp),List.append_nil]
 rw[e];exact h2 s
theorem MvSt.put {ml:List (Int×Value)} {x:Au.It} {s:Int} {v v':Value} (hx:Au.nx G x=some s)
  (h2:∀s,(Mw.asc ml s=none∧Au.mv G l s=[]) ∨ ∃v,Mw.asc ml s=some v∧Au.mv G l s≠[]∧aI 33 2 prF w base v (Au.mv G l s))
  (h3:∀s s' v v',s≠s'→Mw.asc ml s=some v→Mw.asc ml s'=some v'→v'.ownBlock≠v.ownBlock)
  (hv:v=(Mw.asc ml s).getD (.slice none 0 0)) (ho:aI 33 2 prF w' base v' (Au.mv G l s++[(x.1,x.2+1)])) (hg:w.grownBy w' v.ownBlock) (hat:v'.ownBlock=v.ownBlock ∨ ∃j,w.heap.size≤j∧v'.ownBlock=some j)
  (hm:Mw.MapIs zfi w2 D (Mw.putA ml s v')) (hg2:w'.grownBy w2 (some D)) (hD:∃es ck,w'.heap[D]?=some (.map es ck)):MvSt G w2 base D (l++[x]):=by
 obtain⟨es,ck,hDb⟩:=hD
 refine⟨_,hm,fun s'=>?_,fun s1 s2 v1 v2 hne e1 e2=>?_⟩
 ·rw[Mw.asc_put]
  by_cases e:s=s'
  ·subst e
   rw[if_pos rfl]
   have e1:Au.mv G (l++[x]) s=Au.mv G l s++[(x.1,x.2+1)]:=by rw[Au.mv_app,Au.mv_one hx]
   rw[e1]
   exact .inr ⟨v',rfl,by simp,World.ownsRow.kept ho hg2 (zav ho hDb fun cur e=>by cases e)⟩
  ·rw[if_neg e]
   have e1:Au.mv G (l++[x]) s'=Au.mv G l s':=by rw[Au.mv_app,Au.mv_one_no (by rw[hx];simp;exact e),List.append_nil]
   rw[e1]
   rcases h2 s' with q|⟨u,q1,q2,q3⟩
   ·exact .inl q
   ·have k1:aI 33 2 prF w' base u (Au.mv G l s'):=World.ownsRow.kept q3 hg (by
     rcases h2 s with q|⟨u',p1,p2,p3⟩
     ·rw[hv,q.1]
      obtain⟨g,hg,_⟩:=zeq q3 q2
      exact .inr (by rw[hg];intro q;cases q)
     ·rw[hv,p1]
      exact .inr (h3 s s' u' u e p1 q1))
    exact .inr ⟨u,q1,q2,World.ownsRow.kept k1 hg2 (zav k1 hDb fun cur e=>by cases e)⟩
 ·rw[Mw.asc_put]at e1 e2
  have key:∀s2 u,s≠s2→Mw.asc ml s2=some u→u.ownBlock≠v'.ownBlock:=fun s2 u hs eu q=>by
   rcases h2 s2 with k|⟨u',p1,p2,p3⟩
   ·rw[k.1]at eu;cases eu
   ·rw[p1]at eu
    injection eu with eu
    subst eu
    obtain⟨g,hg1,_,hg3⟩:=zeq p3 p2
    rcases hat with hat|hat
    ·rw[hat]at q
     rcases h2 s with k|⟨u2,r1,r2,r3⟩
     ·rw[hv,k.1,hg1]at q;cases q
     ·rw[hv,r1]at q
      exact h3 s s2 u2 u' hs r1 p1 q
    ·obtain⟨j,hj,hat⟩:=hat
     rw[hat,hg1]at q
     injection q with q
     omega
  by_cases a1:s=s1
  ·rw[if_pos a1]at e1
   injection e1 with e1
   subst e1
   by_cases a2:s=s2
   ·exact absurd (a1.symm.trans a2) hne
   ·rw[if_neg a2]at e2
    exact key s2 v2 a2 e2
  ·rw[if_neg a1]at e1
   by_cases a2:s=s2
   ·rw[if_pos a2]at e2
    injection e2 with e2
    subst e2
    exact fun q=>key s1 v1 a1 e1 q.symm
   ·rw[if_neg a2]at e2
    exact h3 s1 s2 v1 v2 hne e1 e2
end
theorem zha {a w w':World} {D base n:Nat} {T:TypeId} {m:Nat} {v:Value} {xs:List Value} (h:a.grownBy w (some D)) (ho:w.ownsRow base T m v n xs) (hg:w.grownBy w' v.ownBlock) (hb:a.heap.size≤base):a.grownBy w' (some D) :=
 ⟨hg.os.trans h.os,hg.tape.trans h.tape,hg.output.trans h.output,Nat.le_trans h.size hg.size,fun i hi hne=>(hg.block i (Nat.lt_of_lt_of_le hi h.size) (fun e=>by have:=(World.ownsRow.lt ho i e.symm).1;omega)).trans (h.block i hi hne)⟩
theorem zgI (v:Value) (G:Gm.Gr) (B:Nat) (w:World) (hg:aT w B v G) (ht:G.ts.length≤1000) (hn:G.ns.length≤1000) :
  Calls Tryz.prog 62 #[v] w fun e w'=>∃v',e=.returned v'∧aS w' w.heap.size v' (Au.syms G)∧Below w.heap.size w w':=by
 obtain⟨AT,cT,AN,cN,AR,cR,rfl,⟨hlT,hmT⟩,⟨hlN,hmN⟩,_⟩:=hg
 have HS0:=aA (aZ.start 26 w #[.slice AT G.ts.length cT,.slice AN G.ns.length cN,.slice AR G.rs.length cR,.int .i64 G.st])
 have g0:=HS0.out.c 0 _ rfl
 have HE:Hid (Au.syms G=(List.range G.ts.length).map (fun i:Nat=>(i:Int))++(List.range G.ns.length).map fun i:Nat=>-1-(i:Int)):=aA rfl
 rw[HE.out]
 clear HE
 have ht2:(G.ts.length:Int)≤1000:=by omega
 have hn2:(G.ns.length:Int)≤1000:=by omega
 clear ht hn
 go_enter Tryz.func62,Tryz.ntmps62
 go_wp2
 clear g0
 go_loopw [3,9] (fun vl vi wr=>∃i:Nat,i≤G.ts.length∧vi=.int .i64 i∧Hid (aS wr (w.heap.size+1) vl ((List.range i).map fun i:Nat=>(i:Int)))∧Hid (aZ 26 w #[.slice AT G.ts.length cT,.slice AN G.ns.length cN,.slice AR G.rs.length cR,.int .i64 G.st] wr)) (fun _ vi _=>G.ts.length-(intOf vi).toNat)
 case atStart=>exact⟨0,Nat.zero_le _,rfl,aA (aS.nil _ _),HS0⟩
 case round =>
  obtain⟨i,hi,rfl,HO,HW⟩:=hrel
  have hZ:=HW.out.size
  obtain⟨A1,c1,rfl,hlc,hmc,hrd⟩:=aS.form HO.out
  by_cases hlt:i<G.ts.length
  ·have HLN:Hid (((List.range i).map fun i:Nat=>(i:Int)).length≤1000):=aA (by simp;omega)
   have HE:Hid (((List.range (i+1)).map fun i:Nat=>(i:Int))=((List.range i).map fun i:Nat=>(i:Int))++[(i:Int)]):=aA (by rw[List.range_succ,List.map_append];rfl)
   clear hrd
   generalize ((List.range i).map fun i:Nat=>(i:Int))=t at *
   have HO1:=aA (HO.out.alloc (.cells #[.int .i64 (i:Int)] 3))
   have HW1:=aA (HW.out.alloc (.cells #[.int .i64 (i:Int)] 3))
   go_wp2_with (at_builtin;refine zaC rfl (.tmp 12) (.tmp 14) _ rfl Tryz.underlying43 (w.heap.size+1) _ t rfl HO1.out _ _ (i:Int) rfl ((aK _ [.int .i64 (i:Int)] _ 0)) (by have:=HLN.out;omega) HW1.out.size ?_;intro v2 w2 ho2 hg2)
   have HO2:=aA ho2
   have HW2:Hid (aZ 26 w #[.slice AT G.ts.length cT,.slice AN G.ns.length cN,.slice AR G.rs.length cR,.int .i64 G.st] w2):=aA (Below.grown HW1.out hg2 HW1.out.size (fun k e=>(World.ownsRow.lt HO1.out k e).1))
   clear ho2 hg2
   go_roundw
   case rel=>exact⟨i+1,hlt,by go_num,aA (by rw[HE.out];exact HO2.out),HW2⟩
   case measure=>simp[intOf];omega
  ·obtain rfl:i=G.ts.length:=by omega
   obtain⟨wo,hwo⟩:∃wo:World,wo=wr:=⟨_,rfl⟩
   subst hwo
   have g1:=HW.out.c 1 _ rfl
   have HTL:Hid (((List.range G.ts.length).map fun i:Nat=>(i:Int)).length≤1000):=aA (by simp;omega)
   clear hrd
   generalize htl:((List.range G.ts.length).map fun i:Nat=>(i:Int))=tl at *
   have HTE:=aA htl
   clear htl
   go_wp2
   clear g1
   go_loopw [3,20] (fun vl vi wr=>∃i:Nat,i≤G.ns.length∧vi=.int .i64 i∧Hid (aS wr (w.heap.size+1) vl (tl++(List.range i).map fun i:Nat=>-1-(i:Int)))∧Hid (aZ 26 w #[.slice AT G.ts.length cT,.slice AN G.ns.length cN,.slice AR G.rs.length cR,.int .i64 G.st] wr)) (fun _ vi _=>G.ns.length-(intOf vi).toNat)
   case atStart=>exact⟨0,Nat.zero_le _,rfl,by simpa using HO,HW⟩
   case round =>
    obtain⟨i,hi,rfl,HO,HW⟩:=hrel
    have hZ:=HW.out.size
    obtain⟨A1,c1,rfl,hlc,hmc,hrd⟩:=aS.form HO.out
    by_cases hlt:i<G.ns.length
    ·have HLN:Hid ((tl++(List.range i).map fun i:Nat=>-1-(i:Int)).length≤2000):=aA (by have:=HTL.out;simp;omega)
     have HE:Hid ((tl++(List.range (i+1)).map fun i:Nat=>-1-(i:Int))=(tl++(List.range i).map fun i:Nat=>-1-(i:Int))++[-1-(i:Int)]):=aA (by rw[List.range_succ,List.map_append,List.append_assoc];rfl)
     have HNO:=aA (fun w=>zdi (i:Int) (by omega) (by omega) w)
     clear hrd
     generalize (tl++(List.range i).map fun i:Nat=>-1-(i:Int))=t at *
     have HO1:=aA (HO.out.alloc (.cells #[.int .i64 (-1-(i:Int))] 3))
     have HW1:=aA (HW.out.alloc (.cells #[.int .i64 (-1-(i:Int))] 3))
     go_wp2_with fail
     refine(HNO.out _).mono ?_;rintro _ wz ⟨rfl,hwz⟩
     subst hwz
     go_wp2_with (at_builtin;refine zaC rfl (.tmp 23) (.tmp 26) _ rfl Tryz.underlying43 (w.heap.size+1) _ t rfl HO1.out _ _ (-1-(i:Int)) rfl ((aK _ [.int .i64 (-1-(i:Int))] _ 0)) (by have:=HLN.out;omega) HW1.out.size ?_;intro v2 w2 ho2 hg2)
     have HO2:=aA ho2
     have HW2:Hid (aZ 26 w #[.slice AT G.ts.length cT,.slice AN G.ns.length cN,.slice AR G.rs.length cR,.int .i64 G.st] w2):=aA (Below.grown HW1.out hg2 HW1.out.size (fun k e=>(World.ownsRow.lt HO1.out k e).1))
     clear ho2 hg2
     go_roundw
     case rel=>exact⟨i+1,hlt,by go_num,aA (by rw[HE.out];exact HO2.out),HW2⟩
     case measure=>simp[intOf];omega
    ·obtain rfl:i=G.ns.length:=by omega
     have HX:Hid (aS wr w.heap.size (.slice A1 (tl++(List.range G.ns.length).map fun i:Nat=>-1-(i:Int)).length c1) (tl++(List.range G.ns.length).map fun i:Nat=>-1-(i:Int))):=aA (HO.out.mono (by omega))
     clear hrd
     generalize hq:(tl++(List.range G.ns.length).map fun i:Nat=>-1-(i:Int))=q at *
     have HQ:=aA hq
     clear hq
     go_wp2
     go_ret
     exact⟨_,rfl,by rw[HTE.out,HQ.out];exact HX.out,HW.out.below⟩
end Go.Proofs.YtabmfpgpkbndeaaGreat
namespace Go.Proofs.YtabmfpgpkbndeaaGreat
set_option maxRecDepth 100000
set_option maxHeartbeats 40000000
open Go.RowKit
theorem zfR {R M:Nat} {w w':World} {T:TypeId} {m n base:Nat} {v:Value} {xs:List Value} (h:w.ownsRow base T m v n xs) (hk:∀(g:Nat) (o:Obj),w.heap[g]?=some o→g≠R→g≠M→(∀cur fr,o ≠ .cells cur 50 fr)→(∀cur fr,o ≠ .cells cur 52 fr)→w'.heap[g]?=some o) (hR:∀cur,w.heap[R]? ≠ some (.cells cur T (0,0))) (hM:∀cur,w.heap[M]? ≠ some (.cells cur T (0,0))) (hT:T≠50) (hE:T≠52):w'.ownsRow base T m v n xs:=by
 refine⟨h.1,?_⟩
 rcases h.2 with h0|⟨g,cap,cur,e,hb1,hg,hr⟩
 ·exact .inl h0
 ·exact .inr ⟨g,cap,cur,e,hb1,hk g _ hg (fun q=>hR cur (by rw[←q];exact hg)) (fun q=>hM cur (by rw[←q];exact hg)) (fun cur' fr q=>by injection q with _ q _;exact hT q) (fun cur' fr q=>by injection q with _ q _;exact hE q),hr⟩
theorem zfo {R M:Nat} {w w':World} {base:Nat} {v:Value} {xs:List (Int×Int)} (h:aI 52 2 prF w base v xs) (hk:KeepN R M w w') (hR:∀cur,w.heap[R]? ≠ some (.cells cur 52 (0,0))) (hM:∀cur,w.heap[M]? ≠ some (.cells cur 52 (0,0))):aI 52 2 prF w' base v xs:=by
 refine⟨h.1,?_⟩
 rcases h.2 with h0|⟨g,cap,cur,e,hb1,hg,hr⟩
 ·exact .inl h0
 ·exact .inr ⟨g,cap,cur,e,hb1,hk.keep g _ hg (fun q=>hR cur (by rw[←q];exact hg)) (fun q=>hM cur (by rw[←q];exact hg)) (fun cur' fr q=>by injection q with _ q _;exact absurd q (by decide)),hr⟩
structure KeepM (R M:Nat) (w w':World):Prop where
 size:w.heap.size≤w'.heap.size
 keep:∀(g:Nat) (o:Obj),w.heap[g]?=some o→g≠R→g≠M→(∀cur fr,o ≠ .cells cur 50 fr)→(∀cur fr,o ≠ .cells cur 52 fr)→w'.heap[g]?=some o
theorem KeepM.refl (R M:Nat) (w:World):KeepM R M w w:=⟨Nat.le_refl _,fun _ _ h _ _ _ _=>h⟩
theorem KeepM.trans {R M:Nat} {w w' w2:World} (h:KeepM R M w w') (k:KeepM R M w' w2):KeepM R M w w2:=⟨Nat.le_trans h.size k.size,fun g o h1 h2 h3 h4 h5=>k.keep g o (h.keep g o h1 h2 h3 h4 h5) h2 h3 h4 h5⟩
theorem KeepM.of {R M:Nat} {w w':World} (h:KeepN R M w w'):KeepM R M w w':=⟨h.size,fun g o h1 h2 h3 h4 _=>h.keep g o h1 h2 h3 h4⟩
theorem KeepM.own {R M:Nat} {w w':World} {base n:Nat} {v:Value} {xs:List Value} (h:w.ownsRow base 52 2 v n xs) (hg:w.grownBy w' v.ownBlock):KeepM R M w w':=⟨hg.size,fun _ _ h1 _ _ _ h5=>aQ h hg h1 fun cur=>h5 cur _⟩
theorem KeepN.ownAt {R M:Nat} {a w w':World} {base n m:Nat} {T:TypeId} {v:Value} {xs:List Value} (h:KeepN R M a w) (ho:w.ownsRow base T m v n xs) (hg:w.grownBy w' v.ownBlock) (hb:a.heap.size≤base):KeepN R M a w' :=
 ⟨Nat.le_trans h.size hg.size,fun g o h1 h2 h3 h4=>(hg.block g (Nat.lt_of_lt_of_le (Array.getElem?_eq_some_iff.1 h1).1 h.size) (fun e=>by have:=(World.ownsRow.lt ho g e.symm).1;have:=(Array.getElem?_eq_some_iff.1 h1).1;omega)).trans (h.keep g o h1 h2 h3 h4)⟩
theorem ABd.apart {w:World} {base R M NE:Nat} {g0 g1 g2 g3:Value} {qs:List QS} (h:ABd w base R M NE g0 g1 g2 g3 qs):(∀cur T,T≠64→w.heap[R]? ≠ some (.cells cur T (0,0)))∧∀cur T,w.heap[M]? ≠ some (.cells cur T (0,0)):=by
 obtain⟨⟨vS,h1,_⟩,⟨l,h3,_⟩,_,_⟩:=h
 refine⟨fun cur T hT e=>?_,fun cur T=>h3.is.not_cells⟩
 rw[h1]at e
 injection e with e
 injection e with _ e _
 exact hT e.symm
theorem ABd.only {w w':World} {base R M NE D:Nat} {g0 g1 g2 g3:Value} {qs:List QS} (h:ABd w base R M NE g0 g1 g2 g3 qs) (hg:w.grownBy w' (some D)) (hD:∃es ck,w.heap[D]?=some (.map es ck)) (hM:D≠M):ABd w' base R M NE g0 g1 g2 g3 qs:=by
 obtain⟨es,ck,hD⟩:=hD
 obtain⟨⟨vS,h1,h2⟩,⟨l,h3,h4⟩,h5,h6⟩:=h
 have hb:∀(g:Nat) (o:Obj),w.heap[g]?=some o→g≠D→w'.heap[g]?=some o:=fun g o h hn=>(hg.block g (Array.getElem?_eq_some_iff.1 h).1 (fun e=>by injection e with e;exact hn e)).trans h
 have hc:∀(g:Nat) (cur:Array Value) (T:TypeId),w.heap[g]?=some (.cells cur T (0,0))→w'.heap[g]?=some (.cells cur T (0,0)):=fun g cur T h=>hb g _ h fun e=>by rw[e,hD]at h;cases h
 refine⟨⟨vS,hc _ _ _ h1,?_,fun q hq=>((h2.2 q hq).keep fun g cur T _ h=>hc g cur T h).more hg.size (Nat.le_refl _)⟩,⟨l,h3.block ?_,h4⟩,h5,h6⟩
 ·exact World.ownsRow.kept h2.1 hg (zav h2.1 hD fun cur e=>by cases e)
 ·exact hg.block _ h3.lt (fun e=>by injection e with e;exact hM e.symm)
theorem ABd.ownE {w w':World} {base R M NE b:Nat} {g0 g1 g2 g3:Value} {qs:List QS} {v:Value} {xs:List (Int×Int)} (h:ABd w base R M NE g0 g1 g2 g3 qs) (ho:aI 52 2 prF w b v xs) (hg:w.grownBy w' v.ownBlock) (hb:NE≤b):ABd w' base R M NE g0 g1 g2 g3 qs:=by
 obtain⟨⟨vS,h1,h2⟩,⟨l,h3,h4⟩,h5,h6⟩:=h
 have hc:∀(g:Nat) (cur:Array Value) (T:TypeId),T≠52→w.heap[g]?=some (.cells cur T (0,0))→w'.heap[g]?=some (.cells cur T (0,0)):=fun g cur T hT h=>aQ ho hg h fun cur=>aO hT
 refine⟨⟨vS,hc _ _ _ (by decide) h1,?_,fun q hq=>((h2.2 q hq).keep fun g cur T hT h=>?_).more hg.size (Nat.le_refl _)⟩,⟨l,h3.block ?_,h4⟩,h5,h6⟩
 ·rcases h2.1.2 with h0|⟨g,cap,cur,e,hb1,hgg,hr⟩
  ·exact⟨h2.1.1,.inl h0⟩
  ·exact⟨h2.1.1,.inr ⟨g,cap,cur,e,hb1,hc _ _ _ (by decide) hgg,hr⟩⟩
 ·rcases hT with⟨rfl,_⟩|⟨rfl,hlt⟩
  ·exact hc _ _ _ (by decide) h
  ·exact(hg.block g (Array.getElem?_eq_some_iff.1 h).1 (fun e=>by have:=(World.ownsRow.lt ho g e.symm).1;omega)).trans h
 ·obtain⟨es,ck,hm,_⟩:=h3
  exact(aQ ho hg hm fun cur e=>by cases e).trans hm.symm
open Go.ChangeShapes Go.WideShapes Go.Deep Go.RowKit Go.Joins in
theorem zdz {a w:World} {D:Nat} (h:a.grownBy w (some D)) (hD:∃es ck,a.heap[D]?=some (.map es ck)) {p:Addr} {u:Value} (hc:a.cell? p=some u):w.cell? p=some u:=by
 obtain⟨es,ck,hD⟩:=hD
 have hne:some p.block≠some D:=fun e=>by
  injection e with e
  unfold World.cell? at hc
  rw[e,hD]at hc
  cases hc
 rw[World.cell?_of_block (h.block p.block (block_lt_of_cell hc) hne)]
 exact hc
theorem zht {G:Gm.Gr} {cl:List Au.It} {p:List (List Au.It)×List (Int×Int)} {s:Int} {qs:List QS} (A:Option Addr) (c:Nat) (hp:aV qs=p.1) (hne:Au.mv G cl s≠[]):Au.edge G cl p s=(aV (zgO qs (Au.mv G cl s) A c),p.2++[(s,zhf qs (Au.mv G cl s))]):=by
 unfold Au.edge zgO zhf
 rw[if_neg hne,hp]
 by_cases h:Au.fnd p.1 (Au.mv G cl s)<0
 ·rw[if_neg (by omega),if_pos h,if_pos h]
  have e:p.1.length=qs.length:=by rw[←hp];unfold aV;rw[List.length_map]
  rw[e,←hp]
  unfold aV bC
  rw[List.map_append];rfl
 ·rw[if_pos (by omega),if_neg h,if_neg h,hp]
theorem zio (qs new:List QS) (k:List Au.It) (A:Option Addr) (c:Nat) (h:∀q∈new,q.2.1=[]):∃new',zgO (qs++new) k A c=qs++new'∧(∀q∈new',q.2.1=[])∧new'.length≤new.length+1:=by
 unfold zgO
 split
 ·refine⟨new++[bC k A c],by rw[List.append_assoc],fun q hq=>?_,by simp⟩
  rcases List.mem_append.1 hq with hq|hq
  ·exact h q hq
  ·rw[List.mem_singleton.1 hq];rfl
 ·exact⟨new,rfl,h,by omega⟩
theorem zb6 {T:TypeId} (x:Int×Int) (w:World) (g:Nat) (hb:w.heap[g]?=some (.cells #[.int .i64 x.1,.int .i64 x.2] T (0,0))):∀j u,(prF x)[j]?=some u→w.cell? ⟨g,j,none⟩=some u:=fun j u hu=>by
 refine(cell_of_row w g j _ _ _ hb).trans ?_
 match j,hu with
 | 0,hu=>exact hu
 | 1,hu=>exact hu
 | j+2,hu=>simp[prF]at hu
def zef (G:Gm.Gr) (w:World) (base R M NE:Nat) (g0 g1 g2 g3:Value) (qs:List QS) (k:List Au.It) (e:Ending) (w':World):Prop :=
 ∃v new,e=.returned v∧aI 52 2 prF w' w.heap.size v (Au.edges G (Au.clo G k) (aV qs,[]) (Au.syms G)).2∧aV (qs++new)=(Au.edges G (Au.clo G k) (aV qs,[]) (Au.syms G)).1∧(∀q∈new,q.2.1=[])∧ABd w' base R M NE g0 g1 g2 g3 (qs++new)∧Below base w w'∧KeepN R M w w'
theorem zfq (G:Gm.Gr) (w:World) (base R M NE B:Nat) (AT AN AR:Option Addr) (cT cN cR:Nat) (qs:List QS) (k:List Au.It) (A:Option Addr) (c:Nat)
  (hg:aT w B (.agg #[.slice AT G.ts.length cT,.slice AN G.ns.length cN,.slice AR G.rs.length cR,.int .i64 G.st]) G) (hf:Gm.Fit G) (hok:Gm.Ok G) (hB:B≤base)
  (h:ABd w base R M NE (.slice AT G.ts.length cT) (.slice AN G.ns.length cN) (.slice AR G.rs.length cR) (.int .i64 G.st) qs) (hk:zgM 33 w base w.heap.size (k,A,c)) (hi:∀x∈k,Au.isI G x=true) (hl:k.length≤1000) (hq:qs.length≤1000) (hE:NE≤w.heap.size) :
  Calls Tryz.prog 35 #[.pointer (some ⟨R,0,none⟩),.slice A k.length c] w (zef G w base R M NE (.slice AT G.ts.length cT) (.slice AN G.ns.length cN) (.slice AR G.rs.length cR) (.int .i64 G.st) qs k):=by
 have HG:=aA hg
 have HF:=aA hf
 have HOK:=aA hok
 have HBB:=aA hB
 have HH:=aA h
 have HK:=aA hk
 have HI:=aA hi
 have HQ:=aA hq
 have HBL:=aA h.base_le
 have HNE:=aA hE
 have hmm:=fun t w=>run_makeMap (P:=Tryz.prog) t w
 obtain⟨w1,hw1⟩:∃y,y=w.alloc (.map #[] 0):=⟨_,rfl⟩
 have hs1:w1.heap.size=w.heap.size+1:=by rw[hw1];simp
 have HB1:Hid (Below w.heap.size w w1):=aA (by rw[hw1];exact(Below.refl _ _).alloc (Nat.le_refl _) _)
 have HD1:Hid (Mw.MapIs zfi w1 w.heap.size []):=aA (by rw[hw1];exact Mw.MapIs.made zfi w)
 have HH1:=aA (h.below HB1.out)
 have HCL:=aA (zcR _ G B k A c w.heap.size w1 (hg.below HB1.out (Nat.le_trans hB h.base_le)) hf hok (Nat.le_trans hB (Nat.le_trans h.base_le HB1.out.size)) (hk.2.2.rd.below HB1.out (Nat.le_refl _)) HB1.out.size (fun x hx=>by
  have hx:=Au.isI_iff.1 (hi x hx)
  have:=Au.sy_le hok (Au.rls_mem.2 hx.1)
  have:=hok.r40
  unfold Gm.In
  omega) hl)
 rw[List.filter_eq_self.2 hi]at HCL
 have HCI:Hid (∀x∈Au.clo G k,Au.isI G x=true):=aA (fun x hx=>Au.clo_is hx)
 have HCS:Hid ((Au.clo G k).length≤287):=aA (Au.clo_le2 hok hok.r40 k)
 obtain⟨⟨vS,h1,h2⟩,_⟩:=HH1.out
 have r0:w1.cell? ⟨R,0,none⟩=some (.slice AT G.ts.length cT):=cell_of_row w1 R 0 _ _ _ h1
 have r1:w1.cell? ⟨R,1,none⟩=some (.slice AN G.ns.length cN):=cell_of_row w1 R 1 _ _ _ h1
 have r2:w1.cell? ⟨R,2,none⟩=some (.slice AR G.rs.length cR):=cell_of_row w1 R 2 _ _ _ h1
 have r3:w1.cell? ⟨R,3,none⟩=some (.int .i64 G.st):=cell_of_row w1 R 3 _ _ _ h1
 unfold zef
 generalize hcl:Au.clo G k=cl at *
 clear hg hf hok hB h hk hi hq h1 h2 hcl hE
 go_enter Tryz.func35,Tryz.ntmps35
 go_upto_region 2 with fail
 rw[←hw1]
 clear hw1
 go_wp2_with fail
 refine HCL.out.mono ?_;rintro _ w2 ⟨v2,rfl,ho2,hb2⟩
 obtain⟨A2,c2,rfl,hlc,hmc,hrd⟩:=aI.form ho2 aG
 have HRD:=aA hrd
 have HB2:=aA hb2
 have HH2:=aA (HH1.out.below hb2)
 have HD2:Hid (Mw.MapIs zfi w2 w.heap.size []):=aA (HD1.out.block (hb2.block _ HD1.out.lt))
 have HM2:Hid (MvSt G w2 w2.heap.size w.heap.size (cl.take 0)):=aA (MvSt.start G w2 _ HD2.out)
 have HZ2:Hid (w.heap.size<w2.heap.size):=aA HD2.out.lt
 have hclI:(cl.length:Int)≤287:=by have:=HCS.out;omega
 clear ho2 hb2 hrd r0 r1 r2 r3 hlc hmc hs1 hmm
 obtain⟨D,hDe⟩:∃D,D=w.heap.size:=⟨_,rfl⟩
 have HDE:=aA hDe
 go_wp2
 go_loopw [23] (fun vi wr=>∃i:Nat,i≤cl.length∧vi=.int .i64 i∧Hid (MvSt G wr w2.heap.size w.heap.size (cl.take i))∧Hid (w2.grownBy wr (some w.heap.size))) (fun vi _=>cl.length-(intOf vi).toNat)
 case atStart=>exact⟨0,Nat.zero_le _,rfl,HM2,aA (World.grownBy.refl _ _)⟩
 case round =>
  obtain⟨i,hi,rfl,HM,HW⟩:=hrel
  by_cases hlt:i<cl.length
  ·obtain⟨g,o,rfl,hgB,hc⟩:=HRD.out (by omega)
   obtain⟨es2,ck2,hDm,_⟩:=HD2.out
   have hDX:∃es ck,w2.heap[w.heap.size]?=some (.map es ck):=⟨es2,ck2,hDm⟩
   have k0:wr.cell? ⟨g,o+i*2,none⟩=some (.int .i64 (cl[i]).1):=zdz HW.out hDX (hc i hlt 0 _ rfl)
   have k1:wr.cell? ⟨g,o+i*2+1,none⟩=some (.int .i64 (cl[i]).2):=zdz HW.out hDX (hc i hlt 1 _ rfl)
   have HII:Hid (Au.isI G cl[i]=true):=aA (HCI.out _ (List.getElem_mem hlt))
   have HTK:Hid (cl.take (i+1)=cl.take i++[cl[i]]):=aA (List.take_succ_eq_append_getElem hlt)
   have HB12:Hid (Below w.heap.size w w2):=aA (HB1.out.trans (HB2.out.mono HB1.out.size))
   have HWB:Hid (Below w.heap.size w wr):=aA (zai HB12.out HW.out (Nat.le_refl _) HB12.out.size)
   obtain⟨⟨vS,h1,h2⟩,_⟩:=HH2.out
   have hRD:R≠w.heap.size:=fun e=>by rw[e,hDm]at h1;cases h1
   have h1r:=(HW.out.block R (Array.getElem?_eq_some_iff.1 h1).1 (fun e=>by injection e with e;exact hRD e)).trans h1
   obtain⟨wi,hwi⟩:∃y,y=wr.alloc (.cells #[.int .i64 (cl[i]).1,.int .i64 (cl[i]).2] 33):=⟨_,rfl⟩
   have HBI:Hid (Below wr.heap.size wr wi):=aA (by rw[hwi];exact(Below.refl _ _).alloc (Nat.le_refl _) _)
   have hbi:wi.heap[wr.heap.size]?=some (.cells #[.int .i64 (cl[i]).1,.int .i64 (cl[i]).2] 33 (0,0)):=by rw[hwi];exact heap_alloc_new wr _
   have HBIX:=aA hbi
   have HRX:=aA (aE HBI.out h1r)
   have HNX:=aA (fun(y:World) (h:Below wi.heap.size wi y)=>zbz _ G B cl[i] y (HG.out.below (HWB.out.trans ((HBI.out.trans (h.mono HBI.out.size)).mono HWB.out.size)) (Nat.le_trans HBB.out HBL.out)) HF.out (Nat.le_trans (Nat.le_trans HBB.out HBL.out) (Nat.le_trans HWB.out.size (Nat.le_trans HBI.out.size h.size))))
   have HNP:=aA (Au.nxP_is HII.out)
   have HNI:=aA (fun s (h:Au.nx G cl[i]=some s)=>Au.nx_in HOK.out HII.out h)
   have HIX:=aA (Au.isI_iff.1 HII.out)
   have HSL:=aA (Au.sy_le HOK.out (Au.rls_mem.2 HIX.out.1))
   have HML:=aA (fun s=>Au.mv_le G (cl.take i) s)
   clear hc hgB hDX hDm h1 h2 h1r hbi HII
   generalize cl[i]=x at *
   go_upto_region 5 with fail
   rw[←hwi]
   clear hwi k0 k1
   have z0:∀z:Calm.On wi.heap.size wi,z.1.cell? ⟨R,0,none⟩=some (.slice AT G.ts.length cT):=fun z=>cell_of_row z.1 _ 0 _ _ _ (aE z.2 HRX.out)
   have z1:∀z:Calm.On wi.heap.size wi,z.1.cell? ⟨R,1,none⟩=some (.slice AN G.ns.length cN):=fun z=>cell_of_row z.1 _ 1 _ _ _ (aE z.2 HRX.out)
   have z2:∀z:Calm.On wi.heap.size wi,z.1.cell? ⟨R,2,none⟩=some (.slice AR G.rs.length cR):=fun z=>cell_of_row z.1 _ 2 _ _ _ (aE z.2 HRX.out)
   have z3:∀z:Calm.On wi.heap.size wi,z.1.cell? ⟨R,3,none⟩=some (.int .i64 G.st):=fun z=>cell_of_row z.1 _ 3 _ _ _ (aE z.2 HRX.out)
   have q0:∀z:Calm.On wi.heap.size wi,z.1.cell? ⟨wr.heap.size,0,none⟩=some (.int .i64 x.1):=fun z=>cell_of_row z.1 _ 0 _ _ _ (aE z.2 HBIX.out)
   have q1:∀z:Calm.On wi.heap.size wi,z.1.cell? ⟨wr.heap.size,1,none⟩=some (.int .i64 x.2):=fun z=>cell_of_row z.1 _ 1 _ _ _ (aE z.2 HBIX.out)
   have HS0:Hid (∃z:Calm.On wi.heap.size wi,wi.drew=z.1):=aA ⟨⟨wi.drew,aB (Below.refl _ _) 1⟩,rfl⟩
   refine CalmN.region_tree (fun x=>∃z:Calm.On wi.heap.size wi,x=z.1) (.one [0,1,2,3,4] 5 (.fin [6,7,8,9,10])) (by kernel_rfl) (by kernel_rfl) (fun _ _ d _ _ h=>by cases d <;> exact h) HS0.out ?_
   simp only[CalmN.wpT,CalmN.wpSt,CalmN.pickOps,List.getElem?_toArray,List.getElem?_cons_zero,List.getElem?_cons_succ]
   repeat (go_big_quiet_step (fail))
   refine wpQuiet_nil ?_
   intro KK hKK
   rw[if_pos (by rfl)]
   go_wp2_with fail
   refine(HNX.out wi.drew (aB (Below.refl _ _) 1)).mono ?_;rintro _ w3 ⟨rfl,hb3⟩
   have hb3:Below wi.heap.size wi w3:=(aB (Below.refl _ wi) 1).trans hb3
   have HS3:Hid (∃z:Calm.On wi.heap.size wi,w3=z.1):=aA ⟨⟨w3,hb3⟩,rfl⟩
   have HB3:Hid (Below wr.heap.size wr w3):=aA (HBI.out.trans (hb3.mono HBI.out.size))
   have HM3:=aA (HM.out.below HB3.out)
   have HW3:Hid (w2.grownBy w3 (some w.heap.size)):=aA (zam HW.out (aL HB3.out _))
   have HBX3:=aA (aE hb3 HBIX.out)
   rw[HNP.out]
   clear hb3 z0 z1 z2 z3 q0 q1 HNX HS0 HNP
   cases hq:Au.nx G x with
   | none =>
    have HX:=aA (HM3.out.skip hq)
    clear hq
    go_wp2_with fail
    refine hKK _ _ HS3.out _ (fun _ h=>h) HS3.out ?_
    clear hKK
    repeat (go_big_quiet_step (fail))
    refine wpQuiet_nil ?_
    go_wp2
    go_roundw
    case rel=>exact⟨i+1,hlt,by go_num,aA (by rw[HTK.out];exact HX.out),HW3⟩
    case measure=>simp[intOf];omega
   | some s =>
    have hsI:=HNI.out s hq
    have hsb:=Gm.has_iff.1 (Au.syms_mem.1 hsI)
    have hns:=(Gm.nons_iff G).1 HOK.out.n
    have HSIN:Hid (Gm.In s):=aA (by unfold Gm.In;have:=(Gm.terms_iff G.ts).1 HOK.out.t;omega)
    have hx2:IntKind.i64.wrap (x.2+1)=x.2+1:=IntWalk.i64_in _ (by have:=HIX.out;have:=HSL.out;omega)
    obtain⟨ml,hmm,hmv,hmd⟩:=HM3.out.m
    have hkey:zfi.enc s=.int .i64 s:=rfl
    have lk:=Mw.run_look (E:=zfi) hmm ziQ (t:=96) Tryz.underlying96 (z:=.slice none 0 0) (by kernel_rfl) (x:=s) HSIN.out false
    rw[hkey]at lk
    simp only[Bool.false_eq_true,if_false]at lk
    have HST:=aA (fun(y:World) (hy:Mw.MapIs zfi y w.heap.size ml) (u:Value)=>Mw.run_put (x:=s) hy ziQ Tryz.underlying96 HSIN.out u)
    have hown:aI 33 2 prF w3 w2.heap.size ((Mw.asc ml s).getD (.slice none 0 0)) (Au.mv G (cl.take i) s):=by
     rcases hmv s with q|⟨v,p1,p2,p3⟩
     ·rw[q.1,q.2];exact aI.nil _ _
     ·rw[p1];exact p3
    have HOWN:=aA hown
    have HVE:Hid ((Mw.asc ml s).getD (.slice none 0 0)=(Mw.asc ml s).getD (.slice none 0 0)):=aA rfl
    generalize hv:(Mw.asc ml s).getD (.slice none 0 0)=v at *
    have HV:=aA hv
    have HMM:=aA hmm
    have HMV:=aA hmv
    have HMD:=aA hmd
    have HXS:=aA hq
    have x0:w3.cell? ⟨wr.heap.size,0,none⟩=some (.int .i64 x.1):=cell_of_row w3 _ 0 _ _ _ HBX3.out
    have x1:w3.cell? ⟨wr.heap.size,1,none⟩=some (.int .i64 x.2):=cell_of_row w3 _ 1 _ _ _ HBX3.out
    have HLN:=aA (show(Au.mv G (cl.take i) s).length≤1000 by have:=HML.out s;have h2:=List.length_take_le i cl;have:=HCS.out;rw[List.length_take]at *;omega)
    have HOW1:=aA (HOWN.out.alloc (.cells #[.int .i64 x.1,.int .i64 (x.2+1)] 33))
    have HW3a:Hid (w2.grownBy (w3.alloc (.cells #[.int .i64 x.1,.int .i64 (x.2+1)] 33)) (some w.heap.size)):=aA (aF HW3.out _)
    obtain⟨es3,ck3,hDb,hDr⟩:=HMM.out
    have hDa:=(Below.heap_alloc w3 (.cells #[.int .i64 x.1,.int .i64 (x.2+1)] 33) w.heap.size (Array.getElem?_eq_some_iff.1 hDb).1).trans hDb
    have HDA:=aA hDa
    have HDR:=aA hDr
    have HNEW:=aA (heap_alloc_new w3 (.cells #[.int .i64 x.1,.int .i64 (x.2+1)] 33))
    have hsome:(some s:Option Int).isSome=true:=rfl
    obtain⟨Av,nv,cv,hvs⟩:∃A n c,v=.slice A n c:=by obtain⟨A,c,e,_⟩:=aI.form hown aG;exact⟨A,_,c,e⟩
    clear hq hsI hsb hns hmm hmv hmd hv hown hDb hDa hDr
    go_wp2_with fail
    refine hKK _ _ HS3.out _ (fun _ h=>h) HS3.out ?_
    clear hKK
    repeat (go_big_quiet_step (fail))
    refine wpQuiet_nil ?_
    subst hvs
    have HSZ:Hid (w2.heap.size≤w3.heap.size):=aA HW3.out.size
    go_wp2_with (first
     | (at_builtin;refine zgF (f:=prF) rfl (.tmp 41) (.tmp 48) _ rfl Tryz.underlying27 _ 16 zbd (by decide) (by decide) (by decide) aG zaI w2.heap.size _ (Au.mv G (cl.take i) s) rfl HOW1.out _ _ (x.1,x.2+1) rfl (zbk (x.1,x.2+1) _ _ HNEW.out) (by have:=HLN.out;omega) HW3a.out.size ?_;intro v5 w5 ho5 hg5 hat5;have hd5:=aQ HOW1.out hg5 HDA.out (fun cur e=>by cases e);have hst:=HST.out w5 ⟨_,_,hd5,HDR.out⟩ v5)
     | (at_mapUpdate;refine Mw.wpList_store rfl _ _ _ _ rfl hst rfl rfl rfl ?_;rintro w6 ⟨hm6,hg6⟩))
    have HG5:Hid (w3.grownBy w5 (Value.slice Av nv cv).ownBlock):=aA (by
     have h1:w3.grownBy (w3.alloc (.cells #[.int .i64 x.1,.int .i64 (x.2+1)] 33)) (Value.slice Av nv cv).ownBlock:=aF (World.grownBy.refl _ _) _
     exact zam h1 hg5)
    have hat:v5.ownBlock=(Value.slice Av nv cv).ownBlock ∨ ∃j,w3.heap.size≤j∧v5.ownBlock=some j:=hat5.imp id fun e=>⟨_,by simp,e⟩
    have HM6:=aA (MvSt.put HXS.out HMV.out HMD.out HV.out.symm ho5 HG5.out hat hm6 hg6 ⟨_,_,hd5⟩)
    have HW6:Hid (w2.grownBy w6 (some w.heap.size)):=aA (zam (zha HW3a.out HOW1.out hg5 (Nat.le_refl _)) hg6)
    clear ho5 hg5 hat5 hd5 hm6 hg6 hat lk x0 x1
    go_roundw
    case rel=>exact⟨i+1,hlt,by go_num,aA (by rw[HTK.out];exact HM6.out),HW6⟩
    case measure=>simp[intOf];omega
  ·obtain rfl:i=cl.length:=by omega
   rw[List.take_length]at HM
   obtain⟨es2,ck2,hDm,_⟩:=HD2.out
   have HDM:Hid (w.heap.size≠M):=aA (by
    obtain⟨_,⟨l,h3,_⟩,_⟩:=HH.out
    have:=h3.lt
    omega)
   have HH3:=aA (HH2.out.only HW.out ⟨es2,ck2,hDm⟩ HDM.out)
   have HB12:Hid (Below w.heap.size w w2):=aA (HB1.out.trans (HB2.out.mono HB1.out.size))
   have HWB:Hid (Below w.heap.size w wr):=aA (zai HB12.out HW.out (Nat.le_refl _) HB12.out.size)
   obtain⟨wo,hwo⟩:∃wo:World,wo=wr:=⟨_,rfl⟩
   subst hwo
   obtain⟨⟨vS,h1,h2⟩,_⟩:=HH3.out
   have r0:wo.cell? ⟨R,0,none⟩=some (.slice AT G.ts.length cT):=cell_of_row wo R 0 _ _ _ h1
   have r1:wo.cell? ⟨R,1,none⟩=some (.slice AN G.ns.length cN):=cell_of_row wo R 1 _ _ _ h1
   have r2:wo.cell? ⟨R,2,none⟩=some (.slice AR G.rs.length cR):=cell_of_row wo R 2 _ _ _ h1
   have r3:wo.cell? ⟨R,3,none⟩=some (.int .i64 G.st):=cell_of_row wo R 3 _ _ _ h1
   have htn:=(Gm.terms_iff G.ts).1 HOK.out.t
   have hnn:=(Gm.nons_iff G).1 HOK.out.n
   have HSY:=aA (zgI _ G B wo (HG.out.below HWB.out (Nat.le_trans HBB.out HBL.out)) (by omega) (by omega))
   have HSN:Hid ((Au.syms G).length≤40):=aA (by rw[Au.syms_len];omega)
   have HSI:Hid (∀s∈Au.syms G,Gm.In s):=aA (fun s hs=>by
    have:=Gm.has_iff.1 (Au.syms_mem.1 hs)
    unfold Gm.In;omega)
   generalize hsy:Au.syms G=sy at *
   have HSE:=aA hsy
   clear h1 h2 hDm htn hnn hsy
   go_wp2_with fail
   refine HSY.out.mono ?_;rintro _ w4 ⟨v4,rfl,ho4,hb4⟩
   obtain⟨A4,c4,rfl,hlc,hmc,_⟩:=aS.form ho4
   have HB4:=aA hb4
   have HO4:=aA ho4
   have HH4:=aA (HH3.out.below hb4)
   have HM4:=aA (HM.out.below hb4)
   have HW4:Hid (Below w.heap.size w w4):=aA (HWB.out.trans (hb4.mono HWB.out.size))
   have hsyI:(sy.length:Int)≤40:=by have:=HSN.out;omega
   have HKN4:Hid (KeepN R M w w4):=aA (.below HW4.out)
   clear ho4 hb4 r0 r1 r2 r3 hlc hmc
   go_wp2
   go_loopw [10,57] (fun vl vi wr=>∃(j:Nat) (new:List QS),j≤sy.length∧vi=.int .i64 j∧new.length≤j∧Hid (aI 52 2 prF wr w.heap.size vl (Au.edges G cl (aV qs,[]) (sy.take j)).2)∧Hid (aV (qs++new)=(Au.edges G cl (aV qs,[]) (sy.take j)).1)∧Hid (∀q∈new,q.2.1=[])∧Hid (ABd wr base R M NE (.slice AT G.ts.length cT) (.slice AN G.ns.length cN) (.slice AR G.rs.length cR) (.int .i64 G.st) (qs++new))∧Hid (Below base w wr)∧Hid (KeepN R M w wr)∧Hid (KeepM R M w4 wr)∧Hid ((Au.edges G cl (aV qs,[]) (sy.take j)).2.length≤j)) (fun _ vi _=>sy.length-(intOf vi).toNat)
   case atStart=>exact⟨0,[],Nat.zero_le _,rfl,Nat.le_refl _,aA (by simpa[Au.edges] using aI.nil _ _),aA (by simp[Au.edges]),aA (by simp),by simpa using HH4,aA (HW4.out.mono HBL.out),HKN4,aA (KeepM.refl _ _ _),aA (by simp[Au.edges])⟩
   case round =>
    obtain⟨j,new,hj,rfl,hnj,HL,HP,HN,HA,HWR,HKN,HKM,HLE⟩:=hrel
    obtain⟨Al,cl',rfl,_,_,_⟩:=aI.form HL.out aG
    by_cases hlt:j<sy.length
    ·have hap:=HH4.out.apart
     have ho4:aS wr wo.heap.size (.slice A4 sy.length c4) sy:=zfR HO4.out HKM.out.keep (fun cur=>hap.1 cur _ (by decide)) (fun cur=>hap.2 cur _) (by decide) (by decide)
     obtain⟨A4',c4',he4,_,_,hrd⟩:=aS.form ho4
     injection he4 with he41 he42 he43
     subst he41
     clear he42 he43
     obtain⟨g,o,rfl,hgB,hc⟩:=hrd (by omega)
     have k0:=hc j hlt
     rw[L.gd_lt hlt]at k0
     obtain⟨ml0,hm0,_⟩:=HM4.out.m
     obtain⟨es4,ck4,hD4,_⟩:=hm0
     have hDR:w.heap.size≠R:=fun e=>by
      obtain⟨⟨vS,h1,_⟩,_⟩:=HH4.out
      rw[←e,hD4]at h1;cases h1
     have hDr:=HKM.out.keep _ _ hD4 hDR HDM.out (fun cur fr e=>by cases e) (fun cur fr e=>by cases e)
     have HMr:=aA (HM4.out.keep (hDr.trans hD4.symm) (fun g cur _ hg=>HKM.out.keep g _ hg (fun e=>hap.1 cur 33 (by decide) (by rw[←e];exact hg)) (fun e=>hap.2 cur 33 (by rw[←e];exact hg)) (fun cur' fr e=>by injection e with _ e _;exact absurd e (by decide)) (fun cur' fr e=>by injection e with _ e _;exact absurd e (by decide))))
     have HTK:Hid (Au.edges G cl (aV qs,[]) (sy.take (j+1))=Au.edge G cl (Au.edges G cl (aV qs,[]) (sy.take j)) sy[j]):=aA (by rw[List.take_succ_eq_append_getElem hlt,Au.edges_snoc])
     have HSIN:Hid (Gm.In sy[j]):=aA (HSI.out _ (List.getElem_mem hlt))
     obtain⟨ml,hmm,hmv,_⟩:=HMr.out.m
     have hkey:zfi.enc sy[j]=.int .i64 sy[j]:=rfl
     have lk:=Mw.run_look (E:=zfi) hmm ziQ (t:=96) Tryz.underlying96 (z:=.slice none 0 0) (by kernel_rfl) (x:=sy[j]) HSIN.out true
     rw[hkey]at lk
     have hmvs:=hmv sy[j]
     generalize sy[j]=s at *
     generalize Au.edges G cl (aV qs,[]) (sy.take j)=p at *
     clear hc hgB hD4 hDr hmm hmv hap ho4 hrd hkey
     rcases hmvs with⟨e1,e2⟩|⟨v,e1,e2,e3⟩
     ·rw[e1]at lk
      simp at lk
      have HE:Hid (Au.edge G cl p s=p):=aA (by unfold Au.edge;rw[if_pos e2])
      clear e1 e2
      go_wp2
      go_roundw
      case rel=>exact⟨j+1,new,hlt,by go_num,by omega,aA (by rw[HTK.out,HE.out];exact HL.out),aA (by rw[HTK.out,HE.out];exact HP.out),HN,HA,HWR,HKN,HKM,aA (by rw[HTK.out,HE.out];have:=HLE.out;omega)⟩
      case measure=>simp[intOf];omega
     ·rw[e1]at lk
      simp at lk
      obtain⟨Av,cv,rfl,hlv,hmxv,_⟩:=aI.form e3 aG
      have hmi:∀x∈Au.mv G cl s,Au.isI G x=true:=fun x hx=>Au.mv_is HCI.out hx
      have HME:=aA (zht (qs:=qs++new) Av cv HP.out e2)
      have HNU:=aA (zch wr base R M NE _ _ _ _ (qs++new) (Au.mv G cl s) Av cv HA.out ⟨hlv,by unfold maxLen at hmxv;omega,(aI.rowP e3).less (Nat.le_trans (Nat.le_trans HBL.out HB12.out.size) (Nat.le_refl _))⟩ (Au.txt_in HOK.out HOK.out.r40 hmi) (by have:=Au.mv_le G cl s;have:=HCS.out;omega) (by have:=HQ.out;rw[List.length_append];have:=HSN.out;omega))
      obtain⟨new',hn1,hn2,hn3⟩:=zio qs new (Au.mv G cl s) Av cv HN.out
      rw[hn1]at HNU HME
      have HN2:=aA hn2
      have HLV:Hid (p.2.length≤1000):=aA (by have:=HLE.out;omega)
      generalize zhf (qs++new) (Au.mv G cl s)=num at *
      generalize (Au.mv G cl s).length=nv at *
      clear e1 e2 e3 hmi hn1 hn2 hlv hmxv
      go_wp2_with fail
      refine HNU.out.mono ?_;rintro _ w5 ⟨rfl,ha5,hb5,hk5⟩
      have hap:=HA.out.apart
      have hl5:=zfo HL.out hk5 (fun cur=>hap.1 cur _ (by decide)) (fun cur=>hap.2 cur _)
      have HA5:=aA (ha5.below ((Below.refl w5.heap.size w5).alloc (Nat.le_refl _) (.cells #[.int .i64 s,.int .i64 num] 52)))
      have HB5:Hid (Below base w (w5.alloc (.cells #[.int .i64 s,.int .i64 num] 52))):=aA ((HWR.out.trans hb5).alloc (Nat.le_trans HBL.out (Nat.le_trans HKN.out.size hk5.size)) _)
      have HK5:Hid (KeepN R M w (w5.alloc (.cells #[.int .i64 s,.int .i64 num] 52))):=aA ((HKN.out.trans hk5).trans (.below ((Below.refl w5.heap.size w5).alloc (Nat.le_refl _) _)))
      have HKM5:Hid (KeepM R M w4 (w5.alloc (.cells #[.int .i64 s,.int .i64 num] 52))):=aA ((HKM.out.trans (.of hk5)).trans (.of (.below ((Below.refl w5.heap.size w5).alloc (Nat.le_refl _) _))))
      have HL5:=aA (hl5.alloc (.cells #[.int .i64 s,.int .i64 num] 52))
      have HNEW:=aA (heap_alloc_new w5 (.cells #[.int .i64 s,.int .i64 num] 52))
      clear ha5 hb5 hk5 hl5 hap
      go_wp2_with (at_builtin;refine zcj (f:=prF) rfl (.tmp 68) (.tmp 74) _ rfl Tryz.underlying48 _ 16 zgi (by decide) (by decide) (by decide) aG zaI w.heap.size _ p.2 rfl HL5.out _ _ (s,num) rfl (zb6 (s,num) _ _ HNEW.out) (by have:=HLV.out;omega) HK5.out.size ?_;intro v6 w6 ho6 hg6)
      have HA6:=aA (HA5.out.ownE HL5.out hg6 HNE.out)
      have HB6:Hid (Below base w w6):=aA (HB5.out.grown hg6 (Nat.le_trans HBL.out HK5.out.size) (fun k e=>Nat.le_trans HBL.out (World.ownsRow.lt HL5.out k e).1))
      have HK6:=aA (HK5.out.ownAt HL5.out hg6 (Nat.le_refl _))
      have HKM6:=aA (HKM5.out.trans (.own HL5.out hg6))
      have HO6:=aA ho6
      clear ho6 hg6 lk k0
      go_roundw
      case rel=>exact⟨j+1,new',hlt,by go_num,by omega,aA (by rw[HTK.out,HME.out];exact HO6.out),aA (by rw[HTK.out,HME.out]),HN2,HA6,HB6,HK6,HKM6,aA (by rw[HTK.out,HME.out];have:=HLE.out;simp;omega)⟩
      case measure=>simp[intOf];omega
    ·obtain rfl:j=sy.length:=by omega
     generalize (Au.edges G cl (aV qs,[]) (sy.take sy.length)).2.length=nl at *
     rw[List.take_length]at HL HP
     generalize hp:Au.edges G cl (aV qs,[]) sy=p at *
     have HPE:=aA hp
     clear hp
     go_wp2
     go_ret
     exact⟨_,new,rfl,by rw[HSE.out,HPE.out];exact HL.out,by rw[HSE.out,HPE.out];exact HP.out,HN.out,HA.out,HWR.out,HKN.out⟩
namespace Au
noncomputable def bldE (G:Gm.Gr):Int:=if Gm.isB G=true then(if(bld G).isSome=true then 0 else 5) else 1
noncomputable def bldS (G:Gm.Gr):List StT:=if Gm.isB G=true then(match bld G with|some p=>p.1.zip p.2|none=>[]) else []
theorem bld_no {G:Gm.Gr} (h:Gm.isB G=false):bldE G=1∧bldS G=[]:=by unfold bldE bldS;rw[h];exact⟨rfl,rfl⟩
theorem bld_many {G:Gm.Gr} (h:Gm.isB G=true) (k:bld G=none):bldE G=5∧bldS G=[]:=by unfold bldE bldS;rw[h,k];exact⟨rfl,rfl⟩
theorem bld_ok {G:Gm.Gr} {ks:List (List It)} {es:List (List (Int×Int))} (h:Gm.isB G=true) (k:bld G=some (ks,es)):bldE G=0∧bldS G=ks.zip es:=by unfold bldE bldS;rw[h,k];exact⟨rfl,rfl⟩
end Au
theorem Gm.isB_right {G:Gm.Gr} (h:Gm.isB G=true):Gm.right G=true:=by
 cases hr:Gm.right G
 ·unfold Gm.isB at h
  rw[Gm.rdE_no hr]at h
  cases h
 ·rfl
def zh4 (G:Gm.Gr) (w:World) (e:Ending) (w':World):Prop :=
 ∃A c,e=.returned (.tuple #[.slice A (Au.bldS G).length c,.int .i64 (Au.bldE G)])∧(Au.bldS G).length≤c∧c≤9223372036854775807∧bI w' w'.heap.size A (Au.bldS G)∧Below w.heap.size w w'
theorem zh4.nil {G:Gm.Gr} {w w':World} {er:Int} (h:Au.bldE G=er∧Au.bldS G=[]) (hb:Below w.heap.size w w'):zh4 G w (.returned (.tuple #[.slice none 0 0,.int .i64 er])) w':=by
 refine⟨none,0,?_,?_,by omega,?_,hb⟩
 ·rw[h.1,h.2];rfl
 ·rw[h.2];exact Nat.le_refl _
 ·rw[h.2];exact bI.nil _ _ _
section
variable {w:World} {base R M NE:Nat} {g0 g1 g2 g3:Value} {qs:List QS}
theorem ABd.setSt {vS:Value} {g n c:Nat} (h:ABd w base R M NE g0 g1 g2 g3 qs) (hv:w.heap[R]?=some (.cells (abC g0 g1 g2 g3 vS M) 64 (0,0))) (e:vS=.slice (some ⟨g,0,none⟩) n c) (i:Nat) (y:QS) (hi:i<qs.length) (hy:y.1=(qs[i]).1) (hq:zhF w base w.heap.size NE y):ABd (w.setCell ⟨g,i*2+1,none⟩ (qpC y.2)) base R M NE g0 g1 g2 g3 (qs.set i y):=by
 obtain⟨⟨vS',h1,h2⟩,⟨l,h3,h4⟩,h5,h6⟩:=h
 have ev:vS'=vS:=by
  rw[h1]at hv
  injection hv with hv
  injection hv with hv _ _
  unfold abC at hv
  injection hv with hv
  injection hv with _ hv
  injection hv with _ hv
  injection hv with _ hv
  injection hv with _ hv
  injection hv with hv _
 subst ev
 rw[e]at h2
 have hst:=h2.set1 i y hi hy hq
 obtain⟨cur,hcur⟩:∃cur,w.heap[g]?=some (.cells cur 50 (0,0)):=by
  rcases h2.1.2 with⟨e,_⟩|⟨g2,cap,cur,e,_,hg,_⟩
  ·cases e
  ·injection e with e _ _
   injection e with e
   injection e with e
   subst e
   exact⟨cur,hg⟩
 have hgR:R≠g:=fun e=>by rw[e,hcur]at h1;injection h1 with h1;exact aO (by decide) h1
 have hgM:M≠g:=fun e=>by rw[e]at h3;exact h3.is.not_cells hcur
 have ek:aV (qs.set i y)=aV qs:=by
  unfold aV
  rw[List.map_set]
  refine List.ext_getElem? fun j=>?_
  rw[List.getElem?_set]
  by_cases hij:i=j
  ·subst hij
   rw[if_pos rfl,if_pos (by simpa using hi),List.getElem?_map,List.getElem?_eq_getElem hi]
   simp[hy]
  ·rw[if_neg hij]
 refine⟨⟨vS',(Below.heap_setCell w ⟨g,i*2+1,none⟩ _ R hgR).trans h1,?_⟩,⟨l,h3.block (Below.heap_setCell w ⟨g,i*2+1,none⟩ _ M hgM),by rw[ek];exact h4⟩,h5,h6⟩
 rw[e]
 have e2:(w.setCell ⟨g,i*2+1,none⟩ (qpC y.2)).heap.size=w.heap.size:=by simp
 rw[e2]
 exact hst
end
theorem zgt {α:Type} (es:List (List α)) (m:Nat) (x:List α):(es++List.replicate (m+1) []).set es.length x=(es++[x])++List.replicate m []:=by
 rw[List.set_append_right _ _ (Nat.le_refl _),Nat.sub_self,List.replicate_succ,List.set_cons_zero,List.append_assoc];rfl
theorem zga {new:List QS} (h:∀q∈new,q.2.1=[]):new.map (fun q:QS=>q.2.1)=List.replicate new.length []:=by
 induction new with
 | nil=>rfl
 | cons x r ih =>
  rw[List.map_cons,List.length_cons,List.replicate_succ,h x List.mem_cons_self,ih fun q hq=>h q (List.mem_cons_of_mem _ hq)]
theorem zeY {qs new:List QS} {es:List (List (Int×Int))} {n:Nat} {y:QS} (h:qs.map (fun q:QS=>q.2.1)=es++List.replicate (n-es.length) []) (hlt:es.length<n) (hw:∀q∈new,q.2.1=[]):((qs++new).set es.length y).map (fun q:QS=>q.2.1)=(es++[y.2.1])++List.replicate ((n+new.length)-(es++[y.2.1]).length) []:=by
 rw[List.map_set,List.map_append,h,zga hw,List.append_assoc,List.replicate_append_replicate,show n-es.length+new.length=(n+new.length-(es.length+1))+1 by omega,zgt,List.length_append,List.length_singleton]
theorem zaR (v:Value) (G:Gm.Gr) (B:Nat) (w:World) (hg:aT w B v G) (hf:Gm.Fit G) (hB:B≤w.heap.size) :
  Calls Tryz.prog 17 #[v] w (zh4 G w):=by
 have HIS:=aA (fun y (h:Below w.heap.size w y)=>zh8 v G B y (hg.below h hB) hf (Nat.le_trans hB h.size))
 have HG:=aA hg
 have HF:=aA hf
 have HBW:=aA hB
 obtain⟨AT,cT,AN,cN,AR,cR,rfl,_⟩:=hg
 have HS0:=aA (aZ.start 26 w #[.slice AT G.ts.length cT,.slice AN G.ns.length cN,.slice AR G.rs.length cR,.int .i64 G.st])
 have g0:=HS0.out.c 0 _ rfl
 have g1:=HS0.out.c 1 _ rfl
 have g2:=HS0.out.c 2 _ rfl
 have g3:=HS0.out.c 3 _ rfl
 clear hf hB
 cases hr:Gm.isB G
 ·have HQ:=aA (Au.bld_no hr)
  rw[hr]at HIS
  clear hr
  go_enter Tryz.func17,Tryz.ntmps17
  go_wp2_with fail
  refine(HIS.out _ HS0.out.below).mono ?_;rintro _ w2 ⟨rfl,hb⟩
  have HB:=aA (HS0.out.on hb)
  clear hb g0 g1 g2 g3
  go_wp2
  go_ret2
  exact zh4.nil HQ.out HB.out.below
 ·have HR:=aA hr
  have HOK:=aA (Gm.right_ok.1 (Gm.isB_right hr))
  rw[hr]at HIS
  have hmm:=fun t w=>run_makeMap (P:=Tryz.prog) t w
  clear hr
  go_enter Tryz.func17,Tryz.ntmps17
  go_wp2_with fail
  refine(HIS.out _ HS0.out.below).mono ?_;rintro _ w2 ⟨rfl,hb⟩
  have HB:=aA (HS0.out.on hb)
  have g0:=HB.out.c 0 _ rfl
  have g1:=HB.out.c 1 _ rfl
  have g2:=HB.out.c 2 _ rfl
  have g3:=HB.out.c 3 _ rfl
  clear hb
  obtain⟨w3,hw3⟩:∃y,y=w2.alloc (.map #[] 0):=⟨_,rfl⟩
  have hs3:w3.heap.size=w2.heap.size+1:=by rw[hw3];simp
  have b3:Below w2.heap.size w2 w3:=by rw[hw3];exact(Below.refl _ _).alloc (Nat.le_refl _) _
  have m3:Mw.MapSt zdM w3 w2.heap.size []:=by rw[hw3];exact Mw.MapSt.made zdM w2
  obtain⟨w4,hw4⟩:∃y,y=w3.alloc (.cells #[.slice AT G.ts.length cT,.slice AN G.ns.length cN,.slice AR G.rs.length cR,.int .i64 G.st,.slice none 0 0,.map (some w2.heap.size)] 64):=⟨_,rfl⟩
  have hs4:w4.heap.size=w2.heap.size+2:=by rw[hw4];simp[hs3]
  have b4:Below w3.heap.size w3 w4:=by rw[hw4];exact(Below.refl _ _).alloc (Nat.le_refl _) _
  have c4:w4.heap[w2.heap.size+1]?=some (.cells (abC (.slice AT G.ts.length cT) (.slice AN G.ns.length cN) (.slice AR G.rs.length cR) (.int .i64 G.st) (.slice none 0 0) w2.heap.size) 64 (0,0)):=by rw[hw4,←hs3];exact heap_alloc_new w3 _
  have hz2:=HB.out.size
  have HA4:Hid (ABd w4 w.heap.size (w2.heap.size+1) w2.heap.size w.heap.size (.slice AT G.ts.length cT) (.slice AN G.ns.length cN) (.slice AR G.rs.length cR) (.int .i64 G.st) []):=aA ⟨⟨_,c4,za1.nil _ _ _ _⟩,⟨[],m3.block (b4.block _ m3.lt),Au.NumOk.nil⟩,by omega,by omega⟩
  have HB4:Hid (Below w.heap.size w w4):=aA ((HB.out.below.trans (b3.mono (by omega))).trans (b4.mono (by omega)))
  obtain⟨w5,hw5⟩:∃y,y=w4.alloc (.cells #[.int .i64 (-1),.int .i64 0] 33):=⟨_,rfl⟩
  have b5:Below w4.heap.size w4 w5:=by rw[hw5];exact(Below.refl _ _).alloc (Nat.le_refl _) _
  have c5:w5.heap[w4.heap.size]?=some (.cells #[.int .i64 (-1),.int .i64 0] 33 (0,0)):=by rw[hw5];exact heap_alloc_new w4 _
  have HA5:=aA (HA4.out.below b5)
  have HB5:Hid (Below w.heap.size w w5):=aA (HB4.out.trans (b5.mono (by omega)))
  have HNU:=aA (zch w5 w.heap.size (w2.heap.size+1) w2.heap.size w.heap.size _ _ _ _ [] [(-1,0)] (some ⟨w4.heap.size,0,none⟩) 1 HA5.out ⟨Nat.le_refl _,by simp,fun _=>⟨w4.heap.size,_,rfl,by omega,(Array.getElem?_eq_some_iff.1 c5).1,c5,fun i hi j u hu=>by
   have:i=0:=by simp at hi;omega
   subst this
   match j,hu with
   | 0,hu=>exact hu
   | 1,hu=>exact hu
   | j+2,hu=>simp[prF]at hu⟩⟩ (fun z hz=>by simp[Au.txt]at hz;omega) (by simp) (by simp))
  have hN:zhf [] [((-1:Int),(0:Int))]=0:=rfl
  have hS:zgO [] [((-1:Int),(0:Int))] (some ⟨w4.heap.size,0,none⟩) 1=[bC [(-1,0)] (some ⟨w4.heap.size,0,none⟩) 1]:=rfl
  rw[hN,hS]at HNU
  clear b3 m3 b4 c4 b5 c5 hz2 hN hS
  obtain⟨R,hRe⟩:∃R,R=w2.heap.size+1:=⟨_,rfl⟩
  rw[←hRe]at HNU HA4 HA5
  go_upto_region 3 with fail
  go_upto_region 4 with fail
  rw[←hw3,←hw4,←hRe]
  clear hw3 hw4 hs3 hs4 hRe hmm
  obtain⟨M,hMe⟩:∃M,M=w2.heap.size:=⟨_,rfl⟩
  rw[←hMe]at HNU HA4 HA5
  rw[←hMe]
  clear hMe g0 g1 g2 g3
  go_wp2_with fail
  rw[←hw5]
  clear hw5
  refine HNU.out.mono ?_;rintro _ w6 ⟨rfl,ha6,hb6,hk6⟩
  have HA6:=aA (ha6.more (NE':=w6.heap.size) (Nat.le_trans (Nat.le_trans (Nat.le_refl _) HB5.out.size) hk6.size))
  have HB6:=aA (HB5.out.trans hb6)
  have HI6:Hid (Au.Inv G [[(-1,0)]] []):=aA (Au.Inv.start G)
  have HRU6:Hid (Au.run G (302-([]:List (List (Int×Int))).length) [[(-1,0)]] []=Au.bld G):=aA rfl
  have HKA6:Hid (aV [bC [((-1:Int),(0:Int))] (some ⟨w4.heap.size,0,none⟩) 1]=[[(-1,0)]]):=aA rfl
  have HE6:Hid ([bC [((-1:Int),(0:Int))] (some ⟨w4.heap.size,0,none⟩) 1].map (fun q:QS=>q.2.1)=[]++List.replicate (1-0) []):=aA rfl
  clear ha6 hb6 hk6
  generalize [bC [((-1:Int),(0:Int))] (some ⟨w4.heap.size,0,none⟩) 1]=qs0 at *
  go_wp2
  go_loopw [5] (fun vi wr=>∃(ks:List (List Au.It)) (es:List (List (Int×Int))) (qs:List QS),vi=.int .i64 (es.length:Nat)∧ks.length≤300∧es.length≤ks.length∧Hid (Au.Inv G ks es)∧Hid (Au.run G (302-es.length) ks es=Au.bld G)∧Hid (aV qs=ks)∧Hid (qs.map (fun q:QS=>q.2.1)=es++List.replicate (ks.length-es.length) [])∧Hid (ABd wr w.heap.size R M wr.heap.size (.slice AT G.ts.length cT) (.slice AN G.ns.length cN) (.slice AR G.rs.length cR) (.int .i64 G.st) qs)∧Hid (Below w.heap.size w wr)) (fun vi _=>301-(intOf vi).toNat)
  case atStart=>exact⟨[[(-1,0)]],[],qs0,rfl,by simp,by simp,HI6,HRU6,HKA6,HE6,HA6,HB6⟩
  case round =>
   obtain⟨ks,es,qs,rfl,hk3,hle,HI,HRU,HKA,HE,HA,HW⟩:=hrel
   obtain⟨⟨vS,h1,h2⟩,_⟩:=HA.out
   have hql:qs.length=ks.length:=by rw[←HKA.out];unfold aV;rw[List.length_map]
   by_cases hlt:es.length<ks.length
   ·have hlq:es.length<qs.length:=by omega
    obtain⟨gS,cS,rfl,hlc,hmc,_⟩:=aI.addr h2.1 (by omega)
    have c4:wr.cell? ⟨R,4,none⟩=some (.slice (some ⟨gS,0,none⟩) qs.length cS):=cell_of_row wr R 4 _ _ _ h1
    have k0:wr.cell? ⟨gS,es.length*2,none⟩=some (.slice (qs[es.length]).1.2.1 (qs[es.length]).1.1.length (qs[es.length]).1.2.2):=aI.cellAt h2.1 zae es.length 0 hlq _ rfl
    have hke:ks.getD es.length []=(qs[es.length]).1.1:=by
     rw[←HKA.out];unfold aV;rw[List.getD_eq_getElem?_getD,List.getElem?_map,List.getElem?_eq_getElem hlq];rfl
    have hkm:(qs[es.length]).1.1∈ks:=by
     rw[←hke,List.getD_eq_getElem?_getD,List.getElem?_eq_getElem hlt]
     exact List.getElem_mem hlt
    have hit:=HI.out.it _ hkm
    have HED:=aA (zfq G wr w.heap.size R M wr.heap.size B AT AN AR cT cN cR qs (qs[es.length]).1.1 (qs[es.length]).1.2.1 (qs[es.length]).1.2.2 (HG.out.below HW.out HBW.out) HF.out HOK.out HBW.out HA.out ((h2.2 _ (List.getElem_mem hlq)).1) hit.2 (Nat.le_trans (Au.kernel_le HOK.out HOK.out.r40 HI.out hkm) (by omega)) (by omega) (Nat.le_refl _))
    unfold zef at HED
    rw[HKA.out]at HED
    have HON:Hid (Au.edges G (Au.clo G (qs[es.length]).1.1) (ks,[]) (Au.syms G)=Au.one G ks es.length):=aA (by unfold Au.one;rw[hke])
    rw[HON.out]at HED
    have HST:=aA (Au.run_step (G:=G) hlt hk3)
    have HIN:=aA (HI.out.step hlt)
    generalize Au.one G ks es.length=O at *
    generalize (qs[es.length]).1.1=k at *
    generalize (qs[es.length]).1.2.1=Ak at *
    generalize (qs[es.length]).1.2.2=ck at *
    have hqlI:((es.length:Nat):Int)<((qs.length:Nat):Int):=by omega
    have HQL:=aA hql
    have HLT:=aA hlt
    clear h1 h2 hke hkm hit hlc hmc
    go_wp2_with fail
    refine HED.out.mono ?_;rintro _ w3 ⟨v3,new,rfl,ho3,hks3,hne3,ha3,hb3,hk3'⟩
    obtain⟨Ae,ce,rfl,hle3,hme3,_⟩:=aI.form ho3 aG
    have HA3:=aA (ha3.more (NE':=w3.heap.size) hk3'.size)
    have HW3:=aA (HW.out.trans hb3)
    obtain⟨⟨vS3,h31,h32⟩,_⟩:=HA3.out
    have hl3:es.length<(qs++new).length:=by rw[List.length_append];omega
    obtain⟨gS3,cS3,rfl,hlc3,hmc3,hbg3⟩:=aI.addr h32.1 (by omega)
    have c43:w3.cell? ⟨R,4,none⟩=some (.slice (some ⟨gS3,0,none⟩) (qs++new).length cS3):=cell_of_row w3 R 4 _ _ _ h31
    have d0:=aI.cellAt h32.1 zae es.length 1 hl3 _ rfl
    have hgl:=aI.lt h32.1
    obtain⟨cur3,hcur3⟩:∃cur,w3.heap[gS3]?=some (.cells cur 50 (0,0)):=by
     rcases h32.1.2 with⟨e,_⟩|⟨g2,cap,cur,e,_,hg,_⟩
     ·cases e
     ·injection e with e _ _
      injection e with e
      injection e with e
      subst e
      exact⟨cur,hg⟩
    have fz:=frozen_of_row w3 gS3 (es.length*2+1) _ _ hcur3
    have HA4:=aA (HA3.out.setSt h31 rfl es.length (((qs++new)[es.length]).1,(O.2,Ae,ce)) hl3 rfl ⟨(h32.2 _ (List.getElem_mem hl3)).1,⟨hle3,by unfold maxLen at hme3;exact(Nat.le_trans hme3 (by omega)),(aI.rowP ho3).less HW.out.size⟩⟩)
    have HE2:Hid (((qs++new).set es.length (((qs++new)[es.length]).1,(O.2,Ae,ce))).map (fun q:QS=>q.2.1)=(es++[O.2])++List.replicate ((ks.length+new.length)-(es++[O.2]).length) []):=aA (zeY (y:=(((qs++new)[es.length]).1,(O.2,Ae,ce))) HE.out HLT.out hne3)
    have HK2:Hid (aV ((qs++new).set es.length (((qs++new)[es.length]).1,(O.2,Ae,ce)))=O.1):=aA (by
     rw[←hks3]
     unfold aV
     rw[List.map_set]
     refine List.ext_getElem? fun j=>?_
     rw[List.getElem?_set]
     by_cases hij:es.length=j
     ·subst hij
      rw[if_pos rfl,if_pos (by simpa using hl3),List.getElem?_map,List.getElem?_eq_getElem hl3];rfl
     ·rw[if_neg hij])
    have HO1:Hid (O.1.length=ks.length+new.length):=aA (by rw[←hks3];unfold aV;rw[List.length_map,List.length_append,HQL.out])
    have HQ2:Hid ((qs++new).length=ks.length+new.length):=aA (by rw[List.length_append,HQL.out])
    change Hid (ABd (w3.setCell ⟨gS3,es.length*2+1,none⟩ (.slice Ae O.2.length ce)) w.heap.size R M w3.heap.size (.slice AT G.ts.length cT) (.slice AN G.ns.length cN) (.slice AR G.rs.length cR) (.int .i64 G.st) ((qs++new).set es.length (((qs++new)[es.length]).1,(O.2,Ae,ce)))) at HA4
    obtain⟨u0,hu0⟩:∃u,w3.cell? ⟨gS3,es.length*2+1,none⟩=some u:=⟨_,d0⟩
    have HW4:Hid (Below w.heap.size w (w3.setCell ⟨gS3,es.length*2+1,none⟩ (.slice Ae O.2.length ce))):=aA (HW3.out.setCell hbg3 _)
    have hsz4:(w3.setCell ⟨gS3,es.length*2+1,none⟩ (.slice Ae O.2.length ce)).heap.size=w3.heap.size:=by simp
    obtain⟨w4,hw4⟩:∃y,y=w3.setCell ⟨gS3,es.length*2+1,none⟩ (.slice Ae O.2.length ce):=⟨_,rfl⟩
    rw[←hw4]at HA4 HW4 hsz4
    rw[←hsz4]at HA4
    have HQS:Hid (((qs++new).set es.length (((qs++new)[es.length]).1,(O.2,Ae,ce))).length=ks.length+new.length):=aA (by rw[List.length_set];exact HQ2.out)
    generalize (qs++new).set es.length (((qs++new)[es.length]).1,(O.2,Ae,ce))=qs2 at *
    have hlI:((es.length:Nat):Int)<(((qs++new).length:Nat):Int):=by omega
    clear h31 h32 ho3 hne3 ha3 hb3 hk3' hks3 hlc3 hmc3 hbg3 hcur3 hl3 hsz4 c4 k0 d0
    generalize (qs++new).length=nq at *
    go_upto_region 10 with fail
    rw[←hw4]
    clear hw4 c43 hu0 fz hgl
    obtain⟨⟨vS4,h41,h42⟩,_⟩:=HA4.out
    obtain⟨A4,c4',rfl,_,_,_⟩:=aI.form h42.1 zae
    have c44:w4.cell? ⟨R,4,none⟩=some (.slice A4 qs2.length c4'):=cell_of_row w4 R 4 _ _ _ h41
    rw[HQS.out,←HO1.out]at c44
    clear h41 h42
    by_cases h300:300<O.1.length
    ·have HB0:=aA (Au.bld_many HR.out (by rw[←HRU.out,HST.out,if_pos h300]))
     have h3I:(300:Int)<((O.1.length:Nat):Int):=by omega
     clear h300 hk3 hle hlt hlq hql
     generalize O.1.length=no at *
     go_wp2
     go_ret2
     exact zh4.nil HB0.out HW4.out
    ·have HRU2:Hid (Au.run G (302-(es++[O.2]).length) O.1 (es++[O.2])=Au.bld G):=aA (by rw[←HRU.out,HST.out,if_neg h300])
     have h3I:((O.1.length:Nat):Int)≤(300:Int):=by omega
     have h3N:O.1.length≤300:=by omega
     have HEO:Hid (qs2.map (fun q:QS=>q.2.1)=(es++[O.2])++List.replicate (O.1.length-(es++[O.2]).length) []):=aA (by rw[HO1.out];exact HE2.out)
     have HNN:Hid ((es++[O.2]).length=es.length+1):=aA (by simp)
     have HLL:Hid ((es++[O.2]).length≤O.1.length):=aA HIN.out.le
     clear h300
     go_wp2
     go_roundw
     case rel=>exact⟨O.1,es++[O.2],qs2,by rw[HNN.out];go_num,h3N,HLL.out,HIN,HRU2,HK2,HEO,HA4,HW4⟩
     case measure=>simp[intOf];omega
   ·have hen:es.length=ks.length:=by omega
    have HB0:=aA (Au.bld_ok HR.out (by rw[←HRU.out];exact Au.run_end hen hk3))
    obtain⟨AS,cS,rfl,hlc,hmc,_⟩:=aI.form h2.1 zae
    have c4:wr.cell? ⟨R,4,none⟩=some (.slice AS qs.length cS):=cell_of_row wr R 4 _ _ _ h1
    have hst:qs.map zhJ=ks.zip es:=by
     have e1:=HKA.out
     have e2:=HE.out
     rw[hen,Nat.sub_self,List.replicate_zero,List.append_nil]at e2
     rw[←e1,←e2]
     unfold aV
     rw[List.zip_map']
     rfl
    have HRD:=aA (za1.rd h2 (Nat.le_refl _) (Nat.le_refl _))
    rw[hst]at HRD
    have HSL:Hid ((Au.bldS G).length=qs.length):=aA (by rw[HB0.out.2,←hst,List.length_map])
    have HLC:=aA hlc
    have HMC:=aA (show cS≤9223372036854775807 by unfold maxLen at hmc;omega)
    have hnq:¬((es.length:Nat):Int)<((qs.length:Nat):Int):=by omega
    clear h1 h2 hst hlc hmc hlt hen hle hk3 hql
    generalize es.length=ne at *
    generalize qs.length=nq at *
    go_wp2
    go_ret2
    refine⟨AS,cS,?_,by rw[HSL.out];exact HLC.out,HMC.out,by rw[HB0.out.2];exact HRD.out,HW.out⟩
    rw[HSL.out,HB0.out.1];rfl
end Go.Proofs.YtabmfpgpkbndeaaGreat
