/- Part of the proofs over this program: LsWord, Alive14, WalkParts14. -/
import Derived.Test.YtcgclkndkahgaaaKH
namespace Go.Proofs.Ytcgclkndkahgaaa
set_option maxRecDepth 100000
set_option maxHeartbeats 40000000
open Go.RowKit
theorem zd1 (G:Gm.Gr) (B:Nat) (z:Int) (hz:Gm.In z) (a:Array Value) (w y:World) (hg:aS y B (.agg a) G) (ho:One w a y) :
  Calls Try.prog 12 #[.int .i64 z,.pointer (some ⟨w.heap.size,0,none⟩)] y fun e w'=>e=.returned (.bool (!Gm.has G z))∧Below y.heap.size y w':=by
 have H:=aA (zdk (.agg a) G B z hz y hg)
 obtain⟨AT,cT,AN,cN,AR,cR,hv,_⟩:=hg
 injection hv with hv
 subst hv
 have q0:=ho.c 0 _ rfl
 have q1:=ho.c 1 _ rfl
 have q2:=ho.c 2 _ rfl
 have q3:=ho.c 3 _ rfl
 have hs:w.heap.size<y.heap.size:=ho.size
 clear ho
 go_enter Try.func12,Try.ntmps12
 go_wp2_with fail
 refine H.out.mono ?_;rintro _ w2 ⟨rfl,hb⟩
 have HB:=aA hb
 clear hb
 go_wp2
 go_ret
 exact⟨rfl,HB.out⟩
theorem Gm.has_sin {G:Gm.Gr} {z:Int} (h:Gm.has G z=true):z<0→-1-z<(G.ns.length:Int):=by
 intro hz
 unfold Gm.has at h
 rw[if_neg (by omega)]at h
 exact of_decide_eq_true h
theorem Gm.any_neH {G:Gm.Gr} (hok:Gm.Ok G) {l:List Int} (h:l.all (Gm.has G)=true):l.any (Gm.neH (Gm.htI G))=Gm.tr (¬Gm.Pr G l):=by
 rw[Bool.eq_iff_iff,Gm.tr_iff,List.any_eq_true]
 have hs:=fun z hz=>Gm.has_sin (List.all_eq_true.1 h z hz)
 constructor
 ·rintro⟨z,hz,e⟩ hp
  rw[Gm.neH_htI hok (hs z hz),Gm.tr_iff]at e
  exact e.2 (hp z hz e.1)
 ·intro hn
  refine Classical.byContradiction fun hc=>hn fun z hz h0=>?_
  refine Classical.byContradiction fun hg=>hc ⟨z,hz,?_⟩
  rw[Gm.neH_htI hok (hs z hz),Gm.tr_iff]
  exact⟨h0,hg⟩
theorem zbJ (v:Value) (G:Gm.Gr) (l:List Int) (A:Option Addr) (c B:Nat) (w:World) (hg:aS w B v G) (hf:Gm.Fit G) (hB:B≤w.heap.size) (hr:RdI w B A l) (hin:∀z∈l,Gm.In z) (hl:l.length≤1000000) :
  Calls Try.prog 6 #[v,.slice A l.length c] w (zcB (Gm.wdL G l) (Gm.wdE G l) w):=by
 have H1:=aA (fun(x:World) (h:Below w.heap.size w x)=>zaY v G B x (hg.below h hB) hf (Nat.le_trans hB h.size))
 have H2:=aA (fun(q:Gm.right G=true) (x:World) (h:Below w.heap.size w x)=>zaw v G B x (hg.below h hB) hf (Gm.right_ok.1 q) (Nat.le_trans hB h.size))
 have HGG:=aA (fun(x:World) (h:Below w.heap.size w x)=>hg.below h hB)
 obtain⟨AT,cT,AN,cN,AR,cR,rfl,_⟩:=hg
 have HS0:=aA (One.start w #[.slice AT G.ts.length cT,.slice AN G.ns.length cN,.slice AR G.rs.length cR,.int .i64 G.st])
 have H3:=aA (fun(x:World) (h:One w #[.slice AT G.ts.length cT,.slice AN G.ns.length cN,.slice AR G.rs.length cR,.int .i64 G.st] x)=>zcW 12 (.pointer (some ⟨w.heap.size,0,none⟩)) (zct Try.func12 (by kernel_rfl) (by kernel_rfl)) l (fun z=>!Gm.has G z) A c B x (hr.below h.below hB) (Nat.le_trans hB h.below.size) (by omega)
  (fun y z hy hz=>zd1 G B z (hin z hz) _ w y (HGG.out y (h.on hy).below) (h.on hy)))
 have HNA:l.any (fun z=>!Gm.has G z) = !l.all (Gm.has G):=by rw[List.all_eq_not_any_not];simp
 rw[HNA]at H3
 have hmf:∀(fn:Fn) (first cap:Array Value) (w:World),(Instr.makeFunc fn first cap).run Try.prog w=.ok (.func fn first cap) w:=fun _ _ _ _=>rfl
 have HF:=aA hf
 have HB:=aA hB
 have HR:=aA hr
 have HIN:=aA hin
 have HL:=aA hl
 clear hf hB hr hin hl HNA
 cases q:Gm.right G with
 | false =>
  rw[q]at H1
  have HE:=aA (Gm.wdE_arg (G:=G) (l:=l) (by rw[q];simp))
  clear q H2 H3
  go_enter Try.func6,Try.ntmps6
  go_wp2_with fail
  refine(H1.out _ HS0.out.below).mono ?_;rintro _ w2 ⟨rfl,hb⟩
  have HB2:=aA (HS0.out.on hb)
  clear hb
  go_wp2
  go_ret2
  exact zcB.no HE.out (Gm.wdL_no (by rw[HE.out];decide)) HB2.out.below
 | true =>
  have H2:=aA (H2.out q)
  have HOK:=aA (Gm.right_ok.1 q)
  have HQ:=aA q
  rw[q]at H1
  clear q
  cases ha:l.all (Gm.has G) with
  | false =>
   rw[ha]at H3
   have HE:=aA (Gm.wdE_arg (G:=G) (l:=l) (by rw[ha];simp))
   clear ha H2
   go_enter Try.func6,Try.ntmps6
   go_wp2_with fail
   refine(H1.out _ HS0.out.below).mono ?_;rintro _ w2 ⟨rfl,hb⟩
   have HB2:=aA (HS0.out.on hb)
   clear hb
   go_wp2_with fail
   refine(H3.out _ HB2.out).mono ?_;rintro _ w3 ⟨rfl,hb⟩
   have HB3:=aA (HB2.out.on hb)
   clear hb
   go_wp2
   go_ret2
   exact zcB.no HE.out (Gm.wdL_no (by rw[HE.out];decide)) HB3.out.below
  | true =>
   rw[ha]at H3
   have HA:=aA ha
   have HWE:Hid (Gm.wdE G l=if Gm.tr (Gm.Pr G l)=true then(if(Gm.ltree G l).length≤300∧(Gm.lword G l).length≤60 then 0 else 13) else 9):=aA (by unfold Gm.wdE;rw[if_pos ⟨HQ.out,ha⟩])
   clear ha
   go_enter Try.func6,Try.ntmps6
   go_wp2_with fail
   refine(H1.out _ HS0.out.below).mono ?_;rintro _ w2 ⟨rfl,hb⟩
   have HB2:=aA (HS0.out.on hb)
   clear hb
   go_wp2_with fail
   refine(H3.out _ HB2.out).mono ?_;rintro _ w3 ⟨rfl,hb⟩
   have HB3:=aA (HB2.out.on hb)
   have q0:=HB3.out.c 0 _ rfl
   have q1:=HB3.out.c 1 _ rfl
   have q2:=HB3.out.c 2 _ rfl
   have q3:=HB3.out.c 3 _ rfl
   have hz3:w.heap.size<w3.heap.size:=HB3.out.size
   clear hb H1 H3 HB2 HS0
   go_upto_region 5 with fail
   refine(H2.out _ HB3.out.below).mono ?_;rintro _ w4 ⟨AR',cR',gH,gL,gS,rfl,h1,h2,h3,u1,u2,u3,hR4,hb4⟩
   obtain⟨w5,hw5⟩:∃y,y=w4.alloc (.cells #[.slice AR' G.rs.length cR',.slice (some ⟨gH,0,none⟩) G.ns.length G.ns.length,.slice (some ⟨gL,0,none⟩) G.ns.length G.ns.length,.slice (some ⟨gS,0,none⟩) G.ns.length G.ns.length] 48):=⟨_,rfl⟩
   have hb45:Below w4.heap.size w4 w5:=by rw[hw5];exact(Below.refl _ _).alloc (Nat.le_refl _) _
   have HKB:Hid (w5.heap[w4.heap.size]?=some (.cells #[.slice AR' G.rs.length cR',.slice (some ⟨gH,0,none⟩) G.ns.length G.ns.length,.slice (some ⟨gL,0,none⟩) G.ns.length G.ns.length,.slice (some ⟨gS,0,none⟩) G.ns.length G.ns.length] 48 (0,0))):=aA (by rw[hw5];exact heap_alloc_new w4 _)
   have HB5:=aA (HB3.out.on (hb4.trans (hb45.mono hb4.size)))
   have HU1:=aA (u1.below hb45 u1.lt)
   have HU2:=aA (u2.below hb45 u2.lt)
   have HU3:=aA (u3.below hb45 u3.lt)
   have HR5:=aA (hR4.blw hb45 (by have h:=HB.out;have h':=HB3.out.below.size;have:=hb4.size;omega))
   clear h1 h2 h3 u1 u2 u3 hR4 hb45 hb4 q0 q1 q2 q3 hz3 H2
   have HSN:=aA (fun z hz=>Gm.has_sin (List.all_eq_true.1 HA.out z hz))
   have HNV:=aA (fun(x:World) (h:Below w5.heap.size w5 x)=>zd7 17 (.agg #[.slice AR' G.rs.length cR',.slice (some ⟨gH,0,none⟩) G.ns.length G.ns.length,.slice (some ⟨gL,0,none⟩) G.ns.length G.ns.length,.slice (some ⟨gS,0,none⟩) G.ns.length G.ns.length]) (zct Try.func17 (by kernel_rfl) (by kernel_rfl)) l (Gm.neH (Gm.htI G)) A c B x ((HR.out.below HB5.out.below HB.out).below h (Nat.le_trans HB.out HB5.out.below.size)) (Nat.le_trans HB.out (Nat.le_trans HB5.out.below.size h.size)) (by have:=HL.out;omega)
    (fun y z hy hz=>zb8 z (Gm.htI G) AR' G.rs.length cR' gH gL gS G.ns.length y (HIN.out z hz) (fun h0=>by rw[Gm.htI_len];exact HSN.out z hz h0) Gm.htI_len.symm (HU1.out.below (h.trans (hy.mono h.size)) HU1.out.lt)))
   rw[Gm.any_neH HOK.out HA.out]at HNV
   have x0:=cell_of_row w5 _ 0 _ _ _ HKB.out
   have x1:=cell_of_row w5 _ 1 _ _ _ HKB.out
   have x2:=cell_of_row w5 _ 2 _ _ _ HKB.out
   have x3:=cell_of_row w5 _ 3 _ _ _ HKB.out
   have lb:=(Array.getElem?_eq_some_iff.1 HKB.out).1
   obtain⟨nb,hnb⟩:∃nb,nb=Gm.tr (¬Gm.Pr G l):=⟨_,rfl⟩
   rw[←hnb]at HNV
   have HNB:=aA hnb
   clear hnb
   go_upto_region 5 with fail
   rw[←hw5]
   clear hw5
   go_wp2_with fail
   refine(HNV.out w5 (Below.refl _ _)).mono ?_;rintro _ w6 ⟨rfl,hb⟩
   have HB6:=aA (HB5.out.on hb)
   have HW6:=aA hb
   clear hb x0 x1 x2 x3 HNV
   by_cases hp:Gm.Pr G l
   ·obtain rfl:nb=false:=HNB.out.trans (Gm.tr_no.2 (fun h=>h hp))
    have HE:=aA (HWE.out.trans (if_pos (Gm.tr_iff.2 hp)))
    have hkb:=(HW6.out.block _ lb).trans HKB.out
    have x0:=cell_of_row w6 _ 0 _ _ _ hkb
    have x1:=cell_of_row w6 _ 1 _ _ _ hkb
    have x2:=cell_of_row w6 _ 2 _ _ _ hkb
    have x3:=cell_of_row w6 _ 3 _ _ _ hkb
    have lb6:=(Array.getElem?_eq_some_iff.1 hkb).1
    have HKB6:=aA hkb
    have HSZ:=aA (zbK l (Gm.szL G) AR' A G.rs.length cR' gH gL gS G.ns.length c B w6 ((HR.out.below HB6.out.below HB.out)) (Nat.le_trans HB.out HB6.out.below.size) (HU3.out.below HW6.out HU3.out.lt) HIN.out (fun z hz h0=>by rw[Gm.szL_len];exact HSN.out z hz h0) (fun i=>by
     rcases Nat.lt_or_ge i G.ns.length with hi|hi
     ·rw[Gm.szL_at hi];have:=Gm.szN_le G i;omega
     ·rw[List.getD_eq_getElem?_getD,List.getElem?_eq_none (by rw[Gm.szL_len];exact hi)];simp) Gm.szL_len.symm HL.out)
    rw[Gm.szL_of HOK.out hp]at HSZ
    have hle1:=Gm.szC_le (G:=G) (l:=l)
    have hle2:=Gm.szC_le2 (G:=G) (l:=l)
    generalize Gm.szC G l=s at *
    obtain⟨s1,s2⟩:=s
    simp only at hle1 hle2
    have HWW:=aA (fun(h300:(Gm.lword G l).length≤60) (x:World) (h:Below w6.heap.size w6 x)=>zec G HOK.out HF.out AR' cR' gH gL gS B _ l hp (Nat.le_refl _) HIN.out HL.out A c (.slice none 0 0) [] x.heap.size x (aK.nil _ _) (Nat.le_refl _) (Nat.le_trans HB.out (Nat.le_trans HB6.out.below.size h.size)) (Nat.lt_of_lt_of_le HU2.out.lt (Nat.le_trans HW6.out.size h.size)) ((HU2.out.below HW6.out HU2.out.lt).below h (Nat.lt_of_lt_of_le HU2.out.lt HW6.out.size)) ((HR5.out.blw HW6.out (Nat.le_trans HB.out HB5.out.below.size)).blw h (Nat.le_trans HB.out HB6.out.below.size)) ((HR.out.below HB6.out.below HB.out).below h (Nat.le_trans HB.out HB6.out.below.size)) (by simp;omega))
    clear hkb hp
    go_upto_region 8 with fail
    refine HSZ.out.mono ?_;rintro _ w7 ⟨rfl,hb⟩
    obtain⟨w8,hw8⟩:∃y,y=w7.alloc (.cells #[.int .i64 (s1:Int),.int .i64 (s2:Int)] 51):=⟨_,rfl⟩
    have hb78:Below w7.heap.size w7 w8:=by rw[hw8];exact(Below.refl _ _).alloc (Nat.le_refl _) _
    have hbs:w8.heap[w7.heap.size]?=some (.cells #[.int .i64 (s1:Int),.int .i64 (s2:Int)] 51 (0,0)):=by rw[hw8];exact heap_alloc_new w7 _
    have HB68:=aA (hb.trans (hb78.mono hb.size))
    have HB8:=aA (HB6.out.on HB68.out)
    clear x0 x1 x2 x3
    have hkb:=(HB68.out.block _ lb6).trans HKB6.out
    have x0:=cell_of_row w8 _ 0 _ _ _ hkb
    have x1:=cell_of_row w8 _ 1 _ _ _ hkb
    have x2:=cell_of_row w8 _ 2 _ _ _ hkb
    have x3:=cell_of_row w8 _ 3 _ _ _ hkb
    have lb8:=(Array.getElem?_eq_some_iff.1 hkb).1
    have y0:=cell_of_row w8 _ 0 _ _ _ hbs
    have y1:=cell_of_row w8 _ 1 _ _ _ hbs
    have ly:=(Array.getElem?_eq_some_iff.1 hbs).1
    clear hb hb78 hbs hkb lb6 lb HSZ
    go_upto_region 8 with fail
    rw[←hw8]
    clear hw8
    have hz1:decide ((300:Int)<(s1:Int))=decide (300<s1):=by rw[Bool.eq_iff_iff,decide_eq_true_eq,decide_eq_true_eq];omega
    have hz2:decide ((60:Int)<(s2:Int))=decide (60<s2):=by rw[Bool.eq_iff_iff,decide_eq_true_eq,decide_eq_true_eq];omega
    by_cases h1:s1≤300
    ·have d1:decide (300<s1)=false:=decide_eq_false (by omega)
     rw[d1]at hz1
     by_cases h2:s2≤60
     ·have d2:decide (60<s2)=false:=decide_eq_false (by omega)
      rw[d2]at hz2
      have HT0:Hid (Gm.wdE G l=0):=aA (by rw[HE.out,if_pos ⟨hle1.1 h1,hle2.1 h2⟩])
      have HTL:Hid (Gm.wdL G l=Gm.lword G l):=aA (by unfold Gm.wdL;rw[if_pos HT0.out])
      have HWX:=aA (HWW.out (hle2.1 h2) w8 HB68.out)
      clear h1 h2 hle1 hle2 d1 d2 HWW
      go_wp2_with fail
      refine HWX.out.mono ?_;rintro _ wf ⟨v',rfl,ho,hbf,_⟩
      have HOF:Hid (aK wf w8.heap.size v' (Gm.wdL G l)):=aA (by rw[HTL.out];exact ho)
      have HBF:=aA (HB8.out.below.trans (hbf.mono HB8.out.below.size))
      clear ho hbf
      go_wp2
      go_ret2
      exact zcB.yes HT0.out HOF.out HBF.out
     ·have d2:decide (60<s2)=true:=decide_eq_true (by omega)
      rw[d2]at hz2
      have HT0:Hid (Gm.wdE G l=13):=aA (by rw[HE.out,if_neg (fun h=>h2 (hle2.2 h.2))])
      clear h1 h2 hle1 hle2 d1 d2 HWW
      go_wp2
      go_ret2
      exact zcB.no HT0.out (Gm.wdL_no (by rw[HT0.out];decide)) HB8.out.below
    ·have d1:decide (300<s1)=true:=decide_eq_true (by omega)
     rw[d1]at hz1
     have HT0:Hid (Gm.wdE G l=13):=aA (by rw[HE.out,if_neg (fun h=>h1 (hle1.2 h.1))])
     clear h1 hle1 hle2 d1 HWW
     go_wp2
     go_ret2
     exact zcB.no HT0.out (Gm.wdL_no (by rw[HT0.out];decide)) HB8.out.below
   ·obtain rfl:nb=true:=HNB.out.trans (Gm.tr_iff.2 hp)
    have HE:=aA (HWE.out.trans (if_neg (fun h=>hp (Gm.tr_iff.1 h))))
    clear hp
    go_wp2
    go_ret2
    exact zcB.no HE.out (Gm.wdL_no (by rw[HE.out];decide)) HB6.out.below
theorem zat (A A':Option Addr) (ca cb n:Nat) (xs:List Int) (w:World) (hra:RdI w w.heap.size A xs) (hrb:RdI w w.heap.size A' xs) (hxl:xs.length≤9223372036854775807) (hn:n=xs.length) :
  Calls Try.prog 7 #[.slice A n ca,.slice A' n cb] w fun e w'=>e=.returned (.bool true)∧∃n,w'=w.drewN n:=by
 subst hn
 exact(zfH A A' ca cb xs xs w hra hrb hxl hxl).mono fun e w' h=>⟨by rw[h.1,decide_eq_true rfl],h.2⟩
theorem zdq (w:World):Calls Try.prog 4 #[] w fun e w'=>e=.returned (.bool true)∧Below w.heap.size w w':=by
 have T1:=aA (zbM zg8 aR (by decide) (by decide) zhz w w.heap.size rfl)
 have U1:=(show(convert 38 38 (.slice (some ⟨w.heap.size,0,none⟩) 28 28)).run Try.prog (w.alloc (.cells #[.int .u8 37,.int .u8 37,.int .u8 32,.int .u8 115,.int .u8 32,.int .u8 58,.int .u8 32,.int .u8 115,.int .u8 32,.int .u8 39,.int .u8 97,.int .u8 39,.int .u8 32,.int .u8 124,.int .u8 32,.int .u8 116,.int .u8 32,.int .u8 59,.int .u8 32,.int .u8 116,.int .u8 32,.int .u8 58,.int .u8 32,.int .u8 39,.int .u8 98,.int .u8 39,.int .u8 32,.int .u8 59] 5))=.ok (.slice (some ⟨w.heap.size,0,none⟩) 28 28) (w.alloc (za5 zg8)) from zdG w zg8 28 28)
 have HT2:=aA (fun(x:World) (n:Nat) (h:n=x.heap.size)=>zbM zeX aJ (by decide) (by decide) zg3 x n h)
 have HU2:=aA (fun x:World=>(show(convert 38 38 (.slice (some ⟨x.heap.size,0,none⟩) 66 66)).run Try.prog (x.alloc (.cells #[.int .u8 37,.int .u8 37,.int .u8 32,.int .u8 97,.int .u8 32,.int .u8 58,.int .u8 32,.int .u8 98,.int .u8 32,.int .u8 98,.int .u8 32,.int .u8 98,.int .u8 32,.int .u8 98,.int .u8 32,.int .u8 98,.int .u8 32,.int .u8 98,.int .u8 32,.int .u8 59,.int .u8 32,.int .u8 98,.int .u8 32,.int .u8 58,.int .u8 32,.int .u8 99,.int .u8 32,.int .u8 99,.int .u8 32,.int .u8 99,.int .u8 32,.int .u8 99,.int .u8 32,.int .u8 99,.int .u8 32,.int .u8 99,.int .u8 32,.int .u8 59,.int .u8 32,.int .u8 99,.int .u8 32,.int .u8 58,.int .u8 32,.int .u8 100,.int .u8 32,.int .u8 100,.int .u8 32,.int .u8 100,.int .u8 32,.int .u8 100,.int .u8 32,.int .u8 100,.int .u8 32,.int .u8 100,.int .u8 32,.int .u8 59,.int .u8 32,.int .u8 100,.int .u8 32,.int .u8 58,.int .u8 32,.int .u8 39,.int .u8 100,.int .u8 39,.int .u8 32,.int .u8 59] 5))=.ok (.slice (some ⟨x.heap.size,0,none⟩) 66 66) (x.alloc (za5 zeX)) from zdG x zeX 66 66))
 have hl1:zg8.length=28:=rfl
 have hl2:zeX.length=66:=rfl
 rw[hl1]at T1
 rw[hl2]at HT2
 clear hl1 hl2
 have hs1:∀(x:World) (o:Obj),(x.alloc o).heap.size=x.heap.size+1:=fun x o=>by simp
 go_enter Try.func4,Try.ntmps4
 go_wp2_with fail
 refine T1.out.mono ?_;rintro _ w1 ⟨⟨g,rfl,hg1,hft1⟩,hb1⟩
 have HTR:=aA (fun(x:World) (h:Below w1.heap.size w1 x)=>(show Calls Try.prog 9 #[g,.int .i64 0] x (fun e w'=>∃A c,e=.returned (.tuple #[.slice A 2 c,.int .i64 0])∧RdI w' w'.heap.size A [1,2]∧Below x.heap.size x w') from(zcS g aR 0 w1.heap.size x (hg1.below h (Nat.le_refl _)) hft1 (by unfold Gm.In;decide) h.size).mono fun e w' k=>by obtain⟨A,c,k1,_,k3,k4⟩:=k;rw[zhq]at k1 k3;rw[zgG]at k1;exact⟨A,c,k1,k3,k4⟩))
 have HWD:=aA (fun(x:World) (h:Below w1.heap.size w1 x)=>(show Calls Try.prog 6 #[g,.slice (some ⟨x.heap.size,0,none⟩) 2 2] (x.alloc (.cells #[.int .i64 (-1),.int .i64 0] 3)) (fun e w'=>∃A c,e=.returned (.tuple #[.slice A 2 c,.int .i64 0])∧RdI w' w'.heap.size A [1,0]∧Below (x.alloc (zam [-1,0])).heap.size (x.alloc (zam [-1,0])) w') from(zbJ g aR [-1,0] (some ⟨x.heap.size,0,none⟩) 2 (x.alloc (zam [-1,0])).heap.size (x.alloc (zam [-1,0])) ((hg1.below (h.alloc h.size _) (Nat.le_refl _)).more (Nat.le_trans h.size (by simp))) hft1 (Nat.le_refl _) (zdY x [-1,0]).1 (by unfold Gm.In;simp) (by decide)).mono fun e w' k=>by obtain⟨A,c,k1,_,k3,k4⟩:=k;rw[zhp]at k1 k3;rw[zgE]at k1;exact⟨A,c,k1,k3,k4⟩))
 have HHE:=aA (fun(x:World) (h:Below w1.heap.size w1 x)=>(show Calls Try.prog 10 #[g] x (fun e w'=>∃q,e=.returned (.slice (some ⟨q,0,none⟩) 2 2)∧UBI w' q [2,1]∧Below x.heap.size x w') from(zcT g aR w1.heap.size x (hg1.below h (Nat.le_refl _)) hft1 h.size).mono fun e w' k=>by obtain⟨q,k1,_,k3,k4⟩:=k.1 zbA;rw[zhy]at k1 k3;exact⟨q,k1,k3,k4⟩))
 have HRU:=aA (fun(x:World) (h:Below w1.heap.size w1 x)=>(show Calls Try.prog 11 #[g] x (fun e w'=>∃q,e=.returned (.slice (some ⟨q,0,none⟩) 2 2)∧UBI w' q [1,2]∧Below x.heap.size x w') from(zd0 g aR w1.heap.size x (hg1.below h (Nat.le_refl _)) hft1 h.size).mono fun e w' k=>by obtain⟨q,k1,_,k3,k4⟩:=k.1 zbA;rw[zhf]at k1 k3;exact⟨q,k1,k3,k4⟩))
 obtain⟨AT,cT,AN,cN,AR,cR,rfl,_,_,_,_,_,_⟩:=hg1
 have HQ1:=aA (One.start w1 #[.slice AT aR.ts.length cT,.slice AN aR.ns.length cN,.slice AR aR.rs.length cR,.int .i64 aR.st])
 have HY1:=aA (fun(x:World) (h:One w1 #[.slice AT aR.ts.length cT,.slice AN aR.ns.length cN,.slice AR aR.rs.length cR,.int .i64 aR.st] x)=>And.intro (h.c 0 _ rfl) (And.intro (h.c 1 _ rfl) (And.intro (h.c 2 _ rfl) (h.c 3 _ rfl))))
 have HBF:=aA (fun(x:World) (h:One w1 #[.slice AT aR.ts.length cT,.slice AN aR.ns.length cN,.slice AR aR.rs.length cR,.int .i64 aR.st] x)=>hb1.trans (h.below.mono hb1.size))
 clear hb1 U1 T1 hft1
 obtain⟨wa,hwa⟩:∃y,y=w1.alloc (.cells #[.slice AT aR.ts.length cT,.slice AN aR.ns.length cN,.slice AR aR.rs.length cR,.int .i64 aR.st] 26):=⟨_,rfl⟩
 rw[←hwa]at HQ1
 have U2:=HU2.out wa
 go_upto_region 2 with fail
 rw[←hwa]
 clear hwa HU2
 go_wp2_with fail
 refine(HT2.out wa wa.heap.size rfl).mono ?_;rintro _ w2 ⟨⟨h,rfl,hg2,hft2⟩,hb2⟩
 have HTB:=aA (fun(x:World) (k:Below w2.heap.size w2 x)=>(show Calls Try.prog 9 #[h,.int .i64 0] x (fun e w'=>∃A c n,e=.returned (.tuple #[.slice A n c,.int .i64 0])∧Below x.heap.size x w') from(zcS h aJ 0 w2.heap.size x (hg2.below k (Nat.le_refl _)) hft2 (by unfold Gm.In;decide) k.size).mono fun e w' k=>by obtain⟨A,c,k1,_,k3,k4⟩:=k;rw[zgF]at k1;exact⟨A,c,_,k1,k4⟩))
 have HWB:=aA (fun(x:World) (k:Below w2.heap.size w2 x)=>(show Calls Try.prog 6 #[h,.slice (some ⟨x.heap.size,0,none⟩) 2 2] (x.alloc (.cells #[.int .i64 (-2),.int .i64 (-2)] 3)) (fun e w'=>∃A c n,e=.returned (.tuple #[.slice A n c,.int .i64 13])∧Below (x.alloc (zam [-2,-2])).heap.size (x.alloc (zam [-2,-2])) w') from(zbJ h aJ [-2,-2] (some ⟨x.heap.size,0,none⟩) 2 (x.alloc (zam [-2,-2])).heap.size (x.alloc (zam [-2,-2])) ((hg2.below (k.alloc k.size _) (Nat.le_refl _)).more (Nat.le_trans k.size (by simp))) hft2 (Nat.le_refl _) (zdY x [-2,-2]).1 (by unfold Gm.In;simp) (by decide)).mono fun e w' k=>by obtain⟨A,c,k1,_,k3,k4⟩:=k;rw[zgD]at k1;exact⟨A,c,_,k1,k4⟩))
 obtain⟨BT,dT,BN,dN,BR,dR,rfl,_,_,_,_,_,_⟩:=hg2
 have HK2:=aA (HQ1.out.on hb2)
 have HQ2:=aA (One.start w2 #[.slice BT aJ.ts.length dT,.slice BN aJ.ns.length dN,.slice BR aJ.rs.length dR,.int .i64 aJ.st])
 have HY2:=aA (fun(x:World) (h:One w2 #[.slice BT aJ.ts.length dT,.slice BN aJ.ns.length dN,.slice BR aJ.rs.length dR,.int .i64 aJ.st] x)=>And.intro (h.c 0 _ rfl) (And.intro (h.c 1 _ rfl) (And.intro (h.c 2 _ rfl) (h.c 3 _ rfl))))
 have HK3:Hid (∀x,One w2 #[.slice BT aJ.ts.length dT,.slice BN aJ.ns.length dN,.slice BR aJ.rs.length dR,.int .i64 aJ.st] x→One w1 #[.slice AT aR.ts.length cT,.slice AN aR.ns.length cN,.slice AR aR.rs.length cR,.int .i64 aR.st] x):=aA (fun x h=>HK2.out.on h.below)
 clear hb2 U2 hft2 HQ1 HT2
 obtain⟨wb,hwb⟩:∃y,y=w2.alloc (.cells #[.slice BT aJ.ts.length dT,.slice BN aJ.ns.length dN,.slice BR aJ.rs.length dR,.int .i64 aJ.st] 26):=⟨_,rfl⟩
 rw[←hwb]at HQ2
 have HE0:=HQ2
 obtain⟨x0,x1,x2,x3⟩:=HY1.out wb (HK3.out _ HQ2.out)
 have l1:w1.heap.size<wb.heap.size:=(HK3.out _ HQ2.out).size
 go_upto_region 3 with fail
 rw[←hwb]
 clear hwb
 go_wp2_with fail
 refine(HTR.out wb (HK3.out _ HQ2.out).below).mono ?_;rintro _ w4 ⟨A4,c4,rfl,hr4,hb4⟩
 have HE4:=aA (HQ2.out.on hb4)
 have HR4:=aA hr4
 clear x0 x1 x2 x3 l1 hr4 hb4 HTR
 obtain⟨x0,x1,x2,x3⟩:=HY1.out w4 (HK3.out _ HE4.out)
 have l1:w1.heap.size<w4.heap.size:=(HK3.out _ HE4.out).size
 have HWX:=aA (HWD.out w4 (HK3.out _ HE4.out).below)
 go_wp2_with fail
 refine HWX.out.mono ?_;rintro _ w5 ⟨A5,c5,rfl,hr5,hb5⟩
 have HE5:=aA ((HE4.out.alloc (zam [-1,0])).on hb5)
 have HR5:=aA hr5
 have HR45:=aA (HR4.out.up ((Below.alloc (Below.refl _ _) (Nat.le_refl _) (zam [-1,0])).trans (hb5.mono (by simp))))
 clear x0 x1 x2 x3 l1 hr5 hb5 HWD HWX HR4 HE4
 obtain⟨x0,x1,x2,x3⟩:=HY2.out w5 HE5.out
 have l1:w2.heap.size<w5.heap.size:=HE5.out.size
 go_wp2_with fail
 refine(HTB.out w5 HE5.out.below).mono ?_;rintro _ w6 ⟨A6,c6,n6,rfl,hb6⟩
 have HE6:=aA (HE5.out.on hb6)
 have HR46:=aA (HR45.out.up hb6)
 have HR56:=aA (HR5.out.up hb6)
 clear x0 x1 x2 x3 l1 hb6 HTB HR45 HR5 HE5
 obtain⟨x0,x1,x2,x3⟩:=HY2.out w6 HE6.out
 have l1:w2.heap.size<w6.heap.size:=HE6.out.size
 have HWX:=aA (HWB.out w6 HE6.out.below)
 go_wp2_with fail
 refine HWX.out.mono ?_;rintro _ w7 ⟨A7,c7,n7,rfl,hb7⟩
 have HE7:=aA ((HE6.out.alloc (zam [-2,-2])).on hb7)
 have hup:=(Below.alloc (Below.refl w6.heap.size w6) (Nat.le_refl _) (zam [-2,-2])).trans (hb7.mono (by simp))
 have HR47:=aA (HR46.out.up hup)
 have HR57:=aA (HR56.out.up hup)
 clear x0 x1 x2 x3 l1 hb7 hup HWB HWX HR46 HR56 HE6
 obtain⟨x0,x1,x2,x3⟩:=HY1.out w7 (HK3.out _ HE7.out)
 have l1:w1.heap.size<w7.heap.size:=(HK3.out _ HE7.out).size
 go_wp2_with fail
 refine(HHE.out w7 (HK3.out _ HE7.out).below).mono ?_;rintro _ w8 ⟨q8,rfl,hu8,hb8⟩
 have HE8:=aA (HE7.out.on hb8)
 have HR48:=aA (HR47.out.up hb8)
 have HR58:=aA (HR57.out.up hb8)
 have HS8:=aA (show Calls Try.prog 7 #[.slice (some ⟨q8,0,none⟩) 2 2,.slice (some ⟨w8.heap.size,0,none⟩) 2 2] (w8.alloc (.cells #[.int .i64 2,.int .i64 1] 3)) _ from zat (some ⟨q8,0,none⟩) (some ⟨w8.heap.size,0,none⟩) 2 2 2 [2,1] (w8.alloc (zam [2,1])) ((RdI.alloc (hu8.rd0 hu8.lt) (Nat.le_refl _) _).more (by simp)) (zdY w8 [2,1]).1 (by decide) rfl)
 clear x0 x1 x2 x3 l1 hb8 hu8 HHE HR47 HR57 HE7
 go_wp2_with fail
 refine HS8.out.mono ?_;rintro _ w9 ⟨rfl,n9,hw9⟩
 have HE9:Hid (One w2 #[.slice BT aJ.ts.length dT,.slice BN aJ.ns.length dN,.slice BR aJ.rs.length dR,.int .i64 aJ.st] w9):=aA (by rw[hw9];exact(HE8.out.alloc _).drewN _)
 have hup:Below w8.heap.size w8 w9:=by rw[hw9];exact aB ((Below.refl _ _).alloc (Nat.le_refl _) _) _
 have HR49:=aA (HR48.out.up hup)
 have HR59:=aA (HR58.out.up hup)
 clear hw9 hup HS8 HR48 HR58 HE8
 obtain⟨x0,x1,x2,x3⟩:=HY1.out w9 (HK3.out _ HE9.out)
 have l1:w1.heap.size<w9.heap.size:=(HK3.out _ HE9.out).size
 go_wp2_with fail
 refine(HRU.out w9 (HK3.out _ HE9.out).below).mono ?_;rintro _ w10 ⟨q10,rfl,hu10,hb10⟩
 have HE10:=aA (HE9.out.on hb10)
 have HR410:=aA (HR49.out.up hb10)
 have HR510:=aA (HR59.out.up hb10)
 have HS10:=aA (show Calls Try.prog 7 #[.slice (some ⟨q10,0,none⟩) 2 2,.slice (some ⟨w10.heap.size,0,none⟩) 2 2] (w10.alloc (.cells #[.int .i64 1,.int .i64 2] 3)) _ from zat (some ⟨q10,0,none⟩) (some ⟨w10.heap.size,0,none⟩) 2 2 2 [1,2] (w10.alloc (zam [1,2])) ((RdI.alloc (hu10.rd0 hu10.lt) (Nat.le_refl _) _).more (by simp)) (zdY w10 [1,2]).1 (by decide) rfl)
 clear x0 x1 x2 x3 l1 hb10 hu10 HRU HR49 HR59 HE9
 go_wp2_with fail
 refine HS10.out.mono ?_;rintro _ w11 ⟨rfl,n11,hw11⟩
 have HE11:Hid (One w2 #[.slice BT aJ.ts.length dT,.slice BN aJ.ns.length dN,.slice BR aJ.rs.length dR,.int .i64 aJ.st] w11):=aA (by rw[hw11];exact(HE10.out.alloc _).drewN _)
 have hup:Below w10.heap.size w10 w11:=by rw[hw11];exact aB ((Below.refl _ _).alloc (Nat.le_refl _) _) _
 have HR411:=aA (HR410.out.up hup)
 have HR511:=aA (HR510.out.up hup)
 clear hw11 hup HS10 HR410 HR510 HE10
 have HS12:=aA (show Calls Try.prog 7 #[.slice A4 2 c4,.slice (some ⟨w11.heap.size,0,none⟩) 2 2] (w11.alloc (.cells #[.int .i64 1,.int .i64 2] 3)) _ from zat A4 (some ⟨w11.heap.size,0,none⟩) c4 2 2 [1,2] (w11.alloc (zam [1,2])) ((RdI.alloc HR411.out (Nat.le_refl _) _).more (by simp)) (zdY w11 [1,2]).1 (by decide) rfl)
 go_wp2_with fail
 refine HS12.out.mono ?_;rintro _ w12 ⟨rfl,n12,hw12⟩
 have HE12:Hid (One w2 #[.slice BT aJ.ts.length dT,.slice BN aJ.ns.length dN,.slice BR aJ.rs.length dR,.int .i64 aJ.st] w12):=aA (by rw[hw12];exact(HE11.out.alloc _).drewN _)
 have hup:Below w11.heap.size w11 w12:=by rw[hw12];exact aB ((Below.refl _ _).alloc (Nat.le_refl _) _) _
 have HR512:=aA (HR511.out.up hup)
 clear hw12 hup HS12 HR411 HR511 HE11
 have HS13:=aA (show Calls Try.prog 7 #[.slice A5 2 c5,.slice (some ⟨w12.heap.size,0,none⟩) 2 2] (w12.alloc (.cells #[.int .i64 1,.int .i64 0] 3)) _ from zat A5 (some ⟨w12.heap.size,0,none⟩) c5 2 2 [1,0] (w12.alloc (zam [1,0])) ((RdI.alloc HR512.out (Nat.le_refl _) _).more (by simp)) (zdY w12 [1,0]).1 (by decide) rfl)
 go_wp2_with fail
 refine HS13.out.mono ?_;rintro _ w13 ⟨rfl,n13,hw13⟩
 have HE13:Hid (One w2 #[.slice BT aJ.ts.length dT,.slice BN aJ.ns.length dN,.slice BR aJ.rs.length dR,.int .i64 aJ.st] w13):=aA (by rw[hw13];exact(HE12.out.alloc _).drewN _)
 clear hw13 HS13 HR512 HE12
 go_wp2
 go_ret
 exact⟨rfl,HBF.out _ (HK3.out _ HE13.out)⟩
namespace Gm
theorem wd_parts {G:Gr} {l:List Int} (h0:wdE G l=0) (k:Nat):wdE G (l.take k)=0∧wdE G (l.drop k)=0∧wdL G (l.take k)++wdL G (l.drop k)=wdL G l∧(wdL G l).length≤60:=by
 have hc:right G=true∧l.all (has G)=true:=by
  refine Classical.byContradiction fun h=>?_
  rw[wdE_arg h]at h0;simp at h0
 have hp:Pr G l:=by
  refine Classical.byContradiction fun h=>?_
  have ht:¬tr (Pr G l)=true:=fun e=>h (tr_iff.1 e)
  unfold wdE at h0
  rw[if_pos hc,if_neg ht]at h0;simp at h0
 have hs:(ltree G l).length≤300∧(lword G l).length≤60:=by
  refine Classical.byContradiction fun h=>?_
  unfold wdE at h0
  rw[if_pos hc,if_pos (tr_iff.2 hp),if_neg h]at h0;simp at h0
 have hok:=right_ok.1 hc.1
 have hd:Pr G (l.drop k):=fun z hz hn=>hp z (List.mem_of_mem_drop hz) hn
 have et:=za4 hok (hp.take k) hd
 have ew:=za3 hok (hp.take k) hd
 rw[List.take_append_drop]at et ew
 have e1:wdE G (l.take k)=0:=by
  unfold wdE
  rw[if_pos ⟨hc.1,List.all_eq_true.2 fun z hz=>List.all_eq_true.1 hc.2 z (List.mem_of_mem_take hz)⟩,if_pos (tr_iff.2 (hp.take k)),if_pos]
  rw[et,ew,List.length_append,List.length_append]at hs
  omega
 have e2:wdE G (l.drop k)=0:=by
  unfold wdE
  rw[if_pos ⟨hc.1,List.all_eq_true.2 fun z hz=>List.all_eq_true.1 hc.2 z (List.mem_of_mem_drop hz)⟩,if_pos (tr_iff.2 hd),if_pos]
  rw[et,ew,List.length_append,List.length_append]at hs
  omega
 refine⟨e1,e2,?_,?_⟩
 ·unfold wdL
  rw[if_pos e1,if_pos e2,if_pos h0,ew]
 ·unfold wdL
  rw[if_pos h0];exact hs.2
end Gm
theorem zbI (v:Value) (G:Gm.Gr) (A:Option Addr) (c:Nat) (l:List Int) (at0:Nat) (w:World) (hg:aS w w.heap.size v G) (hf:Gm.Fit G) (hr:RdI w w.heap.size A l) (hin:∀z∈l,Gm.In z) (hlc:l.length≤c) (hcm:c≤9223372036854775807) (hat:at0<256) :
  Calls Try.prog 3 #[v,.slice A l.length c,.int .u8 at0] w fun e w'=>e=.returned (.bool true)∧Below w.heap.size w w':=by
 have HGG:=aA (fun(x:World) (h:Below w.heap.size w x)=>hg.below h (Nat.le_refl _))
 have HAL:=aA (fun(x:World)=>zdq x)
 have TG:=aA (fun(x:World) (h:Below w.heap.size w x)=>zd6 v G w.heap.size x (HGG.out x h) h.size)
 have TW:=aA (fun(m:List Int) (A':Option Addr) (c':Nat) (hr':RdI w w.heap.size A' m) (hi:∀z∈m,Gm.In z) (hm:m.length≤1000000) (x:World) (h:Below w.heap.size w x)=>zbJ v G m A' c' w.heap.size x (HGG.out x h) hf h.size (hr'.below h (Nat.le_refl _)) hi hm)
 have HR:=aA hr
 have HIN:=aA hin
 have HLC:=aA (And.intro hlc hcm)
 have HAT:=aA hat
 have HWP:=aA (fun h k=>Gm.wd_parts (G:=G) (l:=l) h k)
 have HWN:=aA (fun h=>Gm.wdL_no (G:=G) (l:=l) h)
 obtain⟨A0,c0,A1,c1,A2,c2,rfl,_⟩:=hg
 have HQ0:=aA (One.start w #[.slice A0 G.ts.length c0,.slice A1 G.ns.length c1,.slice A2 G.rs.length c2,.int .i64 G.st])
 have HXC:=aA (fun(x:World) (h:One w #[.slice A0 G.ts.length c0,.slice A1 G.ns.length c1,.slice A2 G.rs.length c2,.int .i64 G.st] x)=>And.intro (h.c 0 _ rfl) (And.intro (h.c 1 _ rfl) (And.intro (h.c 2 _ rfl) (h.c 3 _ rfl))))
 have hlen:(l.length:Int)≤9223372036854775807:=by omega
 clear hf hr hin hlc hcm hat
 go_enter Try.func3,Try.ntmps3
 go_wp2_with fail
 refine(HAL.out _).mono ?_;rintro _ w1 ⟨rfl,hb1⟩
 have HQ1:=aA (HQ0.out.on hb1)
 obtain⟨x0,x1,x2,x3⟩:=HXC.out w1 HQ1.out
 clear hb1
 cases hgr:Gm.great G with
 | true =>
  rw[hgr]at TG
  go_wp2_with fail
  refine(TG.out _ HQ1.out.below).mono ?_;rintro _ w2 ⟨rfl,hb2⟩
  have HQ2:=aA (HQ1.out.on hb2)
  clear hb2
  go_wp2
  go_ret
  exact⟨rfl,HQ2.out.below⟩
 | false =>
  rw[hgr]at TG
  clear hgr
  by_cases h50:50<l.length
  ·have d50:decide (50<l.length)=true:=decide_eq_true h50
   have d51:decide ((50:Int)<(l.length:Int))=true:=decide_eq_true (by omega)
   go_wp2_with fail
   refine(TG.out _ HQ1.out.below).mono ?_;rintro _ w2 ⟨rfl,hb2⟩
   have HQ2:=aA (HQ1.out.on hb2)
   clear hb2
   go_wp2
   go_ret
   exact⟨rfl,HQ2.out.below⟩
  have d50:decide (50<l.length)=false:=decide_eq_false h50
  have d51:decide ((50:Int)<(l.length:Int))=false:=decide_eq_false (by omega)
  have H50:=aA (show l.length≤50 by omega)
  clear h50
  go_upto_region 5 with fail
  refine(TG.out _ HQ1.out.below).mono ?_;rintro _ w2 ⟨rfl,hb2⟩
  have HQ2:=aA (HQ1.out.on hb2)
  clear x0 x1 x2 x3 hb2 TG
  obtain⟨x0,x1,x2,x3⟩:=HXC.out w2 HQ2.out
  have l1:w.heap.size<w2.heap.size:=HQ2.out.size
  go_upto_region 5 with fail
  obtain⟨kk,hkk⟩:∃kk:Nat,kk=at0 % (l.length+1):=⟨_,rfl⟩
  have HKL:Hid (kk≤l.length):=aA (by rw[hkk];have:=Nat.mod_lt at0 (show 0<l.length+1 by omega);omega)
  obtain⟨nl,hnl⟩:∃nl:Nat,nl=l.length+1:=⟨_,rfl⟩
  have hw1:IntKind.i64.wrap ((l.length:Int)+1)=(nl:Int):=by rw[IntWalk.i64_in _ (by have:=H50.out;omega),hnl];omega
  have hcv:IntKind.i64.wrap (at0:Int)=(at0:Int):=IntWalk.i64_in _ (by have:=HAT.out;omega)
  have hmd:Int.tmod (at0:Int) (nl:Int)=(kk:Int):=by rw[Int.tmod_eq_emod_of_nonneg (by omega),hkk,hnl,Int.natCast_emod]
  have hnz:((nl:Int)==0)=false:=beq_eq_false_iff_ne.2 (by omega)
  have hnz2:¬nl=0:=by omega
  have hwk:IntKind.i64.wrap (kk:Int)=(kk:Int):=IntWalk.i64_in _ (by have:=HKL.out;have:=H50.out;omega)
  clear hkk hnl d50 d51
  go_upto_region 6 with fail
  clear hw1 hcv hmd hnz hnz2 hwk
  have TA:=aA (TW.out l A c HR.out HIN.out (by have:=H50.out;omega))
  by_cases he:Gm.wdE G l=0
  ·obtain⟨e1,e2,eap,e60⟩:=HWP.out he kk
   have TA1:=aA (TW.out (l.take kk) A c (HR.out.take kk) (fun z hz=>HIN.out z (List.mem_of_mem_take hz)) (by rw[List.length_take];have:=H50.out;omega))
   have TA2:=aA (TW.out (l.drop kk) (dropA A c kk) (c-kk) (HR.out.dropA HLC.out.1 kk) (fun z hz=>HIN.out z (List.mem_of_mem_drop hz)) (by rw[List.length_drop];have:=H50.out;omega))
   rw[he]at TA
   rw[e1,List.length_take,Nat.min_eq_left HKL.out]at TA1
   rw[e2,List.length_drop]at TA2
   have S1:=fun w=>zcG w A c l.length kk (by have:=HLC.out.1;have:=HKL.out;omega)
   have S2:=fun w=>zbv w A c l.length kk HKL.out
   have HAB:=aA eap
   have H60:=aA e60
   generalize Gm.wdL G (l.take kk)=la at *
   generalize Gm.wdL G (l.drop kk)=lb at *
   generalize Gm.wdL G l=lst at *
   generalize dropA A c kk=D at *
   generalize l.length-kk=nd at *
   generalize c-kk=cd at *
   clear he e1 e2 eap e60 TW HWP HWN
   go_upto_region 7 with fail
   refine(TA.out w2 HQ2.out.below).mono ?_;rintro _ w3 ⟨A3,c3,rfl,_,hr3,hb3⟩
   have HQ3:=aA (HQ2.out.on hb3)
   have HR3:=aA hr3
   clear x0 x1 x2 x3 l1 hr3 hb3 TA
   go_upto_region 9 with fail
   have q0:=fun y:Calm.On w3.heap.size w3=>(HXC.out y.1 (HQ3.out.on y.2)).1
   have q1:=fun y:Calm.On w3.heap.size w3=>(HXC.out y.1 (HQ3.out.on y.2)).2.1
   have q2:=fun y:Calm.On w3.heap.size w3=>(HXC.out y.1 (HQ3.out.on y.2)).2.2.1
   have q3:=fun y:Calm.On w3.heap.size w3=>(HXC.out y.1 (HQ3.out.on y.2)).2.2.2
   have HSY:Hid (∀z,Below w3.heap.size w3 z→∃q:Calm.On w3.heap.size w3,z=q.1):=aA (fun z hz=>⟨⟨z,hz⟩,rfl⟩)
   have HD:Hid (Below w3.heap.size w3 w3.drew):=aA (aB (Below.refl _ _) 1)
   refine CalmN.region_tree (fun x=>∃y:Calm.On w3.heap.size w3,x=y.1) (.one [0,1,2,3] 4 (.fin [5,6,7,8,9])) (by kernel_rfl) (by kernel_rfl) (fun _ _ d _ _ h=>by cases d <;> exact h) ⟨⟨w3.drew,HD.out⟩,rfl⟩ ?_
   simp only[CalmN.wpT,CalmN.wpSt,CalmN.pickOps,List.getElem?_toArray,List.getElem?_cons_zero,List.getElem?_cons_succ]
   repeat (go_big_quiet_step (fail))
   refine wpQuiet_nil ?_
   generalize w3.drew=wd at *
   clear q0 q1 q2 q3 S1
   intro KK hKK
   rw[if_pos (by rfl)]
   go_wp2_with fail
   refine(TA1.out wd (HQ3.out.on HD.out).below).mono ?_;rintro _ w4 ⟨A5,c5,rfl,_,hr5,hb⟩
   have HB4:=aA (HD.out.trans (hb.mono HD.out.size))
   have HR5:=aA hr5
   have HQ4:=aA (HQ3.out.on HB4.out)
   have HR34:=aA (HR3.out.up HB4.out)
   clear hb hr5 TA1
   go_wp2_with fail
   refine hKK _ _ (HSY.out _ HB4.out) (fun x=>∃y:Calm.On w3.heap.size w3,x=y.1) (fun _ h=>h) (HSY.out _ HB4.out) ?_
   clear hKK
   repeat (go_big_quiet_step (fail))
   refine wpQuiet_nil ?_
   clear HD HB4 HR3 HQ3 HSY
   go_upto_region 10 with fail
   have q0:=fun y:Calm.On w4.heap.size w4=>(HXC.out y.1 (HQ4.out.on y.2)).1
   have q1:=fun y:Calm.On w4.heap.size w4=>(HXC.out y.1 (HQ4.out.on y.2)).2.1
   have q2:=fun y:Calm.On w4.heap.size w4=>(HXC.out y.1 (HQ4.out.on y.2)).2.2.1
   have q3:=fun y:Calm.On w4.heap.size w4=>(HXC.out y.1 (HQ4.out.on y.2)).2.2.2
   have HSY:Hid (∀z,Below w4.heap.size w4 z→∃q:Calm.On w4.heap.size w4,z=q.1):=aA (fun z hz=>⟨⟨z,hz⟩,rfl⟩)
   have HD:Hid (Below w4.heap.size w4 w4.drew):=aA (aB (Below.refl _ _) 1)
   refine CalmN.region_tree (fun x=>∃y:Calm.On w4.heap.size w4,x=y.1) (.one [0,1,2,3] 4 (.fin [5,6,7,8,9])) (by kernel_rfl) (by kernel_rfl) (fun _ _ d _ _ h=>by cases d <;> exact h) ⟨⟨w4.drew,HD.out⟩,rfl⟩ ?_
   simp only[CalmN.wpT,CalmN.wpSt,CalmN.pickOps,List.getElem?_toArray,List.getElem?_cons_zero,List.getElem?_cons_succ]
   repeat (go_big_quiet_step (fail))
   refine wpQuiet_nil ?_
   generalize w4.drew=wd2 at *
   clear q0 q1 q2 q3 S2
   intro KK hKK
   rw[if_pos (by rfl)]
   go_wp2_with fail
   refine(TA2.out wd2 (HQ4.out.on HD.out).below).mono ?_;rintro _ w5 ⟨A6,c6,rfl,_,hr6,hb⟩
   have HB5:=aA (HD.out.trans (hb.mono HD.out.size))
   have HR6:=aA hr6
   have HQ5:=aA (HQ4.out.on HB5.out)
   have HR35:=aA (HR34.out.up HB5.out)
   have HR55:=aA (HR5.out.up HB5.out)
   clear hb hr6 TA2
   go_wp2_with fail
   refine hKK _ _ (HSY.out _ HB5.out) (fun x=>∃y:Calm.On w4.heap.size w4,x=y.1) (fun _ h=>h) (HSY.out _ HB5.out) ?_
   clear hKK
   repeat (go_big_quiet_step (fail))
   refine wpQuiet_nil ?_
   clear HD HB5 HR34 HR5 HQ4 HSY
   have HLL:Hid (la.length+lb.length=lst.length):=aA (by rw[←HAB.out,List.length_append])
   have hl1:([]:List Int).length+la.length≤1000000000000:=by have:=HLL.out;have:=H60.out;simp;omega
   have hl2:la.length+lb.length≤1000000000000:=by have:=HLL.out;have:=H60.out;omega
   have hb0:w5.heap.size≤(w5.alloc (.cells #[] 3)).heap.size:=by simp
   have HR6a:=aA (HR6.out.alloc (Nat.le_refl _) (.cells #[] 3))
   have HR5a:=aA (HR55.out.alloc (Nat.le_refl _) (.cells #[] 3))
   have d60:decide (lst.length≤60)=true:=decide_eq_true H60.out
   have d61:decide ((lst.length:Int)≤60)=true:=decide_eq_true (by have:=H60.out;omega)
   go_wp2_with (at_builtin;go_big_want;rename_i KK hKK;refine ze7 (.tmp 63) (.tmp 64) _ rfl Try.underlying27 w5.heap.size _ [] rfl (zb5 w5) w5.heap.size la.length c5 A5 la rfl rfl HR5a.out hl1 hb0 ?_;intro v6 w6 ho6 hg6;have HKK:=aA hKK;clear hKK)
   rw[List.nil_append]at ho6
   have hbb:=zay ((Below.refl w5.heap.size w5).alloc (Nat.le_refl _) (.cells #[] 3)) (zb5 w5) hg6 hb0
   have HB6:=aA hbb
   have HO6:=aA ho6
   have HR66:=aA (HR6.out.up HB6.out)
   have hb6:w5.heap.size≤w6.heap.size:=HB6.out.size
   clear ho6 hg6 hbb hb0 hl1 HR6a HR5a HR55
   refine HKK.out _ _ ?_
   clear HKK
   go_wp2_with (at_builtin;go_big_want;rename_i K2 hK2;refine ze7 (.tmp 65) (.tmp 66) _ rfl Try.underlying27 w5.heap.size _ la rfl HO6.out w6.heap.size lb.length c6 A6 lb rfl rfl HR66.out hl2 hb6 ?_;intro v7 w7 ho7 hg7;have HK2:=aA hK2;clear hK2)
   rw[HAB.out]at ho7
   have hbb:=zay HB6.out HO6.out hg7 hb6
   have HB7:=aA hbb
   obtain⟨A7,c7,rfl,_,_,hr7⟩:=ho7.form
   have HR37:=aA (HR35.out.up HB7.out)
   have HI7:=aA (zat A7 A3 c7 c3 lst.length lst w7 hr7 HR37.out (by have:=H60.out;omega) rfl)
   have HQ7:=aA (HQ5.out.on HB7.out)
   clear ho7 hg7 hbb hb6 hl2 HR66 HO6 HB6 HR6 hr7
   refine HK2.out _ _ ?_
   clear HK2
   go_wp2_with fail
   refine HI7.out.mono ?_;rintro _ w8 ⟨rfl,n8,hw8⟩
   have HQ8:Hid (One w #[.slice A0 G.ts.length c0,.slice A1 G.ns.length c1,.slice A2 G.rs.length c2,.int .i64 G.st] w8):=aA (by rw[hw8];exact HQ7.out.drewN _)
   clear hw8
   go_wp2
   go_ret
   exact⟨rfl,HQ8.out.below⟩
  ·have HNE:Hid (Gm.wdL G l=[]):=aA (HWN.out he)
   have hne:(Gm.wdE G l != 0)=true:=bne_iff_ne.2 he
   rw[HNE.out]at TA
   generalize Gm.wdE G l=err at *
   clear he HWP HWN HNE TW
   go_upto_region 7 with fail
   refine(TA.out w2 HQ2.out.below).mono ?_;rintro _ w3 ⟨A3,c3,rfl,_,_,hb3⟩
   have HQ3:=aA (HQ2.out.on hb3)
   rw[List.length_nil]
   clear x0 x1 x2 x3 l1 hb3 TA
   go_wp2
   go_ret
   exact⟨rfl,HQ3.out.below⟩
end Go.Proofs.Ytcgclkndkahgaaa
