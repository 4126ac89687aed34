/- Part of the proofs over this program: LsAns, LsWord, Ints, Alive14, LsRef1, GramOpen, RowKit. -/
import Derived.Deep.Slices
import Derived.Deep.Fields
import Derived.ChangeSame
import Derived.Lib.SmallJoins
import Derived.SliceStrings
import Derived.Test.YtcgclkndkahgaaaGreatRows
import Derived.SizedLaws
import Derived.LaidMore
import Derived.Stop.Joined
import Derived.ShutString
import Derived.ChangeOld
import Derived.Test.YtcgclkndkahgaaaGreatKI
namespace Go.Proofs.YtcgclkndkahgaaaGreat
set_option maxRecDepth 100000
set_option maxHeartbeats 40000000
open Go.RowKit
def zfD (b:Bool) (s:List Int) (w:World) (e:Ending) (w':World):Prop :=
 (b=true→∃g,e=.returned (.slice (some ⟨g,0,none⟩) s.length s.length)∧w.heap.size≤g∧UBI w' g s∧Below w.heap.size w w')∧(b=false→e=.returned (.slice none 0 0)∧Below w.heap.size w w')
def aV (L:List Int) (E:Int) (w:World) (e:Ending) (w':World):Prop:=∃A c,e=.returned (.tuple #[.slice A L.length c,.int .i64 E])∧L.length≤c∧RdI w' w'.heap.size A L∧Below w.heap.size w w'
theorem aV.no {L:List Int} {E E':Int} {w w':World} (hE:E=E') (hL:L=[]) (hb:Below w.heap.size w w'):aV L E w (.returned (.tuple #[.slice none 0 0,.int .i64 E'])) w':=by
 subst hE hL
 exact⟨none,0,rfl,Nat.le_refl _,RdI.nil _ _ _,hb⟩
theorem aV.yes {L:List Int} {E E':Int} {w w':World} {v:Value} {base:Nat} (hE:E=E') (ho:aJ w' base v L) (hb:Below w.heap.size w w'):aV L E w (.returned (.tuple #[v,.int .i64 E'])) w':=by
 subst hE
 obtain⟨A,c,rfl,h1,_,h2⟩:=ho.form
 exact⟨A,c,rfl,h1,h2,hb⟩
theorem zaQ (v:Value) (G:Gm.Gr) (B:Nat) (w:World) (hg:aN w B v G) (hf:Gm.Fit G) (hB:B≤w.heap.size) :
  Calls Tryz.prog 10 #[v] w (zfD (Gm.right G) (Gm.htI G) w):=by
 have H1:=aA (fun(x:World) (h:Below w.heap.size w x)=>za6 v G B x (hg.below h hB) hf (Nat.le_trans hB h.size))
 have H2:=aA (fun(q:Gm.right G=true) (x:World) (h:Below w.heap.size w x)=>zaz v G B x (hg.below h hB) hf (Gm.right_ok.1 q) (Nat.le_trans hB h.size))
 obtain⟨AT,cT,AN,cN,AR,cR,rfl,_⟩:=hg
 have HS0:=aA (One.start w #[.slice AT G.ts.length cT,.slice AN G.ns.length cN,.slice AR G.rs.length cR,.int .i64 G.st])
 clear hf
 cases q:Gm.right G
 ·rw[q]at H1
  clear q H2
  go_enter Tryz.func10,Tryz.ntmps10
  go_wp2_with fail
  refine(H1.out _ HS0.out.below).mono ?_;rintro _ w2 ⟨rfl,hb⟩
  have HB2:=aA (HS0.out.on hb)
  clear hb
  go_wp2
  go_ret
  exact⟨fun h=>by simp at h,fun _=>⟨rfl,HB2.out.below⟩⟩
 ·have H2:=aA (H2.out q)
  rw[q]at H1
  clear q
  go_enter Tryz.func10,Tryz.ntmps10
  go_wp2_with fail
  refine(H1.out _ HS0.out.below).mono ?_;rintro _ w2 ⟨rfl,hb⟩
  have HB2:=aA (HS0.out.on hb)
  have q0:=HB2.out.c 0 _ rfl
  have q1:=HB2.out.c 1 _ rfl
  have q2:=HB2.out.c 2 _ rfl
  have q3:=HB2.out.c 3 _ rfl
  have hz2:w.heap.size<w2.heap.size:=HB2.out.size
  clear hb
  go_wp2_with fail
  refine(H2.out _ HB2.out.below).mono ?_;rintro _ w3 ⟨AR',cR',gH,gL,gS,rfl,h1,h2,h3,u1,u2,u3,_,hb3⟩
  have HX:=aA (And.intro h1 u1)
  have HB3:=aA (HB2.out.on hb3)
  clear h1 h2 h3 u1 u2 u3 hb3
  have FL:=fun(a b c d:Value) (w:World)=>(show(Instr.field 48 (.agg #[a,b,c,d]) 1).run Tryz.prog w=.ok b w from by kernel_rfl)
  go_wp2
  go_ret
  exact⟨fun _=>⟨gH,by rw[Gm.htI_len];rfl,by have:=HX.out.1;omega,HX.out.2,HB3.out.below⟩,fun h=>by simp at h⟩
theorem zbj (v:Value) (G:Gm.Gr) (B:Nat) (w:World) (hg:aN w B v G) (hf:Gm.Fit G) (hB:B≤w.heap.size) :
  Calls Tryz.prog 12 #[v] w (zfD (Gm.right G) (Gm.best G (Gm.hts G)) w):=by
 have H1:=aA (fun(x:World) (h:Below w.heap.size w x)=>za6 v G B x (hg.below h hB) hf (Nat.le_trans hB h.size))
 have H2:=aA (fun(q:Gm.right G=true) (x:World) (h:Below w.heap.size w x)=>zaz v G B x (hg.below h hB) hf (Gm.right_ok.1 q) (Nat.le_trans hB h.size))
 obtain⟨AT,cT,AN,cN,AR,cR,rfl,_⟩:=hg
 have HS0:=aA (One.start w #[.slice AT G.ts.length cT,.slice AN G.ns.length cN,.slice AR G.rs.length cR,.int .i64 G.st])
 clear hf
 cases q:Gm.right G
 ·rw[q]at H1
  clear q H2
  go_enter Tryz.func12,Tryz.ntmps12
  go_wp2_with fail
  refine(H1.out _ HS0.out.below).mono ?_;rintro _ w2 ⟨rfl,hb⟩
  have HB2:=aA (HS0.out.on hb)
  clear hb
  go_wp2
  go_ret
  exact⟨fun h=>by simp at h,fun _=>⟨rfl,HB2.out.below⟩⟩
 ·have H2:=aA (H2.out q)
  rw[q]at H1
  clear q
  go_enter Tryz.func12,Tryz.ntmps12
  go_wp2_with fail
  refine(H1.out _ HS0.out.below).mono ?_;rintro _ w2 ⟨rfl,hb⟩
  have HB2:=aA (HS0.out.on hb)
  have q0:=HB2.out.c 0 _ rfl
  have q1:=HB2.out.c 1 _ rfl
  have q2:=HB2.out.c 2 _ rfl
  have q3:=HB2.out.c 3 _ rfl
  have hz2:w.heap.size<w2.heap.size:=HB2.out.size
  clear hb
  go_wp2_with fail
  refine(H2.out _ HB2.out.below).mono ?_;rintro _ w3 ⟨AR',cR',gH,gL,gS,rfl,h1,h2,h3,u1,u2,u3,_,hb3⟩
  have HX:=aA (And.intro h2 u2)
  have HB3:=aA (HB2.out.on hb3)
  clear h1 h2 h3 u1 u2 u3 hb3
  have FL:=fun(a b c d:Value) (w:World)=>(show(Instr.field 48 (.agg #[a,b,c,d]) 2).run Tryz.prog w=.ok c w from by kernel_rfl)
  go_wp2
  go_ret
  exact⟨fun _=>⟨gL,by rw[Gm.best_len];rfl,by have:=HX.out.1;omega,HX.out.2,HB3.out.below⟩,fun h=>by simp at h⟩
theorem Gm.neH_htI {G:Gm.Gr} (hok:Gm.Ok G) {z:Int} (hz:z<0→-1-z<(G.ns.length:Int)):Gm.neH (Gm.htI G) z=Gm.tr (z<0∧¬Gm.Gn true G.rs (-1-z)):=by
 unfold Gm.neH
 rw[Bool.eq_iff_iff,Gm.tr_iff,Bool.and_eq_true,decide_eq_true_eq,beq_iff_eq,Gm.htI_at]
 constructor
 ·rintro⟨h1,h2⟩
  refine⟨h1,?_⟩
  have h3:=hz h1
  have h4:=(Gm.hts_zero hok (j:=(-1-z).toNat) (by omega)).1 (by omega)
  rwa [Int.toNat_of_nonneg (by omega)]at h4
 ·rintro⟨h1,h2⟩
  refine⟨h1,?_⟩
  have h3:=hz h1
  rw[(Gm.hts_zero hok (j:=(-1-z).toNat) (by omega)).2 (by rw[Int.toNat_of_nonneg (by omega)];exact h2)];rfl
theorem zbW (v:Value) (G:Gm.Gr) (n:Int) (B:Nat) (w:World) (hg:aN w B v G) (hf:Gm.Fit G) (hn:Gm.In n) (hB:B≤w.heap.size) :
  Calls Tryz.prog 14 #[v,.int .i64 n] w (aV (Gm.trL G n) (Gm.trE G n) w):=by
 have H1:=aA (fun(x:World) (h:Below w.heap.size w x)=>za6 v G B x (hg.below h hB) hf (Nat.le_trans hB h.size))
 have H2:=aA (fun(q:Gm.right G=true) (x:World) (h:Below w.heap.size w x)=>zaz v G B x (hg.below h hB) hf (Gm.right_ok.1 q) (Nat.le_trans hB h.size))
 obtain⟨AT,cT,AN,cN,AR,cR,rfl,_,⟨hlN,hmN⟩,_⟩:=hg
 have HS0:=aA (One.start w #[.slice AT G.ts.length cT,.slice AN G.ns.length cN,.slice AR G.rs.length cR,.int .i64 G.st])
 have HF:=aA hf
 have HB:=aA hB
 have HNI:=aA hn
 clear hf hn hB
 cases q:Gm.right G with
 | false =>
  rw[q]at H1
  have HE:=aA (Gm.trE_arg (G:=G) (n:=n) (by rw[q];simp))
  clear q H2
  go_enter Tryz.func14,Tryz.ntmps14
  go_wp2_with fail
  refine(H1.out _ HS0.out.below).mono ?_;rintro _ w2 ⟨rfl,hb⟩
  have HB2:=aA (HS0.out.on hb)
  clear hb
  go_wp2
  go_ret2
  exact aV.no HE.out (Gm.trL_no (by rw[HE.out];decide)) HB2.out.below
 | true =>
  have H2:=aA (H2.out q)
  have HOK:=aA (Gm.right_ok.1 q)
  have HQ:=aA q
  have HN:=aA ((Gm.nons_iff G).1 HOK.out.n).2.1
  rw[q]at H1
  clear q
  go_enter Tryz.func14,Tryz.ntmps14
  go_wp2_with fail
  refine(H1.out _ HS0.out.below).mono ?_;rintro _ w2 ⟨rfl,hb⟩
  have HB2:=aA (HS0.out.on hb)
  have q0:=HB2.out.c 0 _ rfl
  have q1:=HB2.out.c 1 _ rfl
  have q2:=HB2.out.c 2 _ rfl
  have q3:=HB2.out.c 3 _ rfl
  have hz2:w.heap.size<w2.heap.size:=HB2.out.size
  clear hb H1
  by_cases hn0:n<0
  ·have HE:=aA (Gm.trE_arg (G:=G) (n:=n) (by omega))
   have d0:=decide_eq_true hn0
   clear hn0
   go_wp2
   go_ret2
   exact aV.no HE.out (Gm.trL_no (by rw[HE.out];decide)) HB2.out.below
  ·have d0:=decide_eq_false hn0
   by_cases hn1:n<(G.ns.length:Int)
   ·have d1:decide ((G.ns.length:Int)≤n)=false:=decide_eq_false (by omega)
    obtain⟨j,rfl⟩:∃j:Nat,n=(j:Int):=⟨n.toNat,by omega⟩
    have hj:j<G.ns.length:=by omega
    clear hn0
    go_upto_region 3 with fail
    go_upto_region 4 with fail
    refine(H2.out _ HB2.out.below).mono ?_;rintro _ w3 ⟨AR',cR',gH,gL,gS,rfl,h1,h2,h3,u1,u2,u3,hR3,hb3⟩
    obtain⟨w4,hw4⟩:∃y,y=w3.alloc (.cells #[.slice AR' G.rs.length cR',.slice (some ⟨gH,0,none⟩) G.ns.length G.ns.length,.slice (some ⟨gL,0,none⟩) G.ns.length G.ns.length,.slice (some ⟨gS,0,none⟩) G.ns.length G.ns.length] 48):=⟨_,rfl⟩
    have hb34:Below w3.heap.size w3 w4:=by rw[hw4];exact(Below.refl _ _).alloc (Nat.le_refl _) _
    have HKB:Hid (w4.heap[w3.heap.size]?=some (.cells #[.slice AR' G.rs.length cR',.slice (some ⟨gH,0,none⟩) G.ns.length G.ns.length,.slice (some ⟨gL,0,none⟩) G.ns.length G.ns.length,.slice (some ⟨gS,0,none⟩) G.ns.length G.ns.length] 48 (0,0))):=aA (by rw[hw4];exact heap_alloc_new w3 _)
    have HB4:=aA (HB2.out.on (hb3.trans (hb34.mono hb3.size)))
    have HU1:=aA (u1.below hb34 u1.lt)
    have HU2:=aA (u2.below hb34 u2.lt)
    have HU3:=aA (u3.below hb34 u3.lt)
    have HR4:=aA (hR3.blw hb34 (by have h:=HB.out;have h':=HB2.out.below.size;have:=hb3.size;omega))
    have HLT:=aA (And.intro u1.lt (And.intro u2.lt u3.lt))
    clear h1 h2 h3 u1 u2 u3 hR3 hb34 hb3 q0 q1 q2 q3 hz2 H2
    go_upto_region 4 with fail
    rw[←hw4]
    clear hw4
    have hlb:=(Array.getElem?_eq_some_iff.1 HKB.out).1
    have x0:=fun y:Calm.On w4.heap.size w4=>(y.2.cell (p:=⟨w3.heap.size,0,none⟩) hlb).trans (cell_of_row w4 _ 0 _ _ _ HKB.out)
    have x1:=fun y:Calm.On w4.heap.size w4=>(y.2.cell (p:=⟨w3.heap.size,1,none⟩) hlb).trans (cell_of_row w4 _ 1 _ _ _ HKB.out)
    have x2:=fun y:Calm.On w4.heap.size w4=>(y.2.cell (p:=⟨w3.heap.size,2,none⟩) hlb).trans (cell_of_row w4 _ 2 _ _ _ HKB.out)
    have x3:=fun y:Calm.On w4.heap.size w4=>(y.2.cell (p:=⟨w3.heap.size,3,none⟩) hlb).trans (cell_of_row w4 _ 3 _ _ _ HKB.out)
    have HX:=aA (fun w=>za5 (j:Int) (by omega) (by omega) w)
    have HNE:=aA (fun(y:World) (h:Below w4.heap.size w4 y)=>zck (-1-(j:Int)) (Gm.htI G) AR' G.rs.length cR' gH gL gS G.ns.length y (by unfold Gm.In;omega) (fun _=>by rw[Gm.htI_len];omega) Gm.htI_len.symm (HU1.out.below h HU1.out.lt))
    rw[Gm.neH_htI HOK.out (fun _=>by omega),show -1-(-1-(j:Int))=(j:Int) by omega]at HNE
    obtain⟨nb,hnb⟩:∃nb,nb=Gm.tr ((-1-(j:Int))<0∧¬Gm.Gn true G.rs (j:Int)):=⟨_,rfl⟩
    rw[←hnb]at HNE
    have HNB:=aA hnb
    clear hnb
    have HSB:Hid (∀z,Below w4.heap.size w4 z→∃q:Calm.On w4.heap.size w4,z=q.1):=aA (fun z hz=>⟨⟨z,hz⟩,rfl⟩)
    have HD:Hid (Below w4.heap.size w4 w4.drew):=aA (aB (Below.refl _ _) 1)
    refine CalmN.region_tree (fun x=>∃y:Calm.On w4.heap.size w4,x=y.1) (.one [0,1] 2 (.one [] 3 (.fin []))) (by kernel_rfl) (by kernel_rfl) (fun _ _ d _ _ h=>by cases d <;> exact h) ⟨⟨w4.drew,HD.out⟩,rfl⟩ ?_
    simp only[CalmN.wpT,CalmN.wpSt,CalmN.pickOps,List.getElem?_toArray,List.getElem?_cons_zero,List.getElem?_cons_succ]
    repeat (go_big_quiet_step (fail))
    refine wpQuiet_nil ?_
    generalize w4.drew=wd at *
    intro KK hKK
    rw[if_pos (by rfl)]
    go_wp2_with fail
    refine(HX.out wd).mono ?_;rintro _ wd ⟨rfl,rfl⟩
    go_wp2_with fail
    refine hKK _ _ (HSB.out _ HD.out) (fun x=>∃y:Calm.On w4.heap.size w4,x=y.1) (fun _ h=>h) (HSB.out _ HD.out) ?_
    clear hKK
    refine wpQuiet_nil ?_
    intro KK hKK
    rw[if_pos (by rfl)]
    go_wp2_with fail
    refine(HNE.out wd HD.out).mono ?_;rintro _ we ⟨rfl,hb⟩
    have HE4:=aA (HD.out.trans (hb.mono HD.out.size))
    have HQE:=aA (HB4.out.on HE4.out)
    clear hb
    go_wp2_with fail
    refine hKK _ _ (HSB.out _ HE4.out) (fun x=>∃y:Calm.On w4.heap.size w4,x=y.1) (fun _ h=>h) (HSB.out _ HE4.out) ?_
    clear hKK x0 x1 x2 x3
    refine wpQuiet_nil ?_
    by_cases hp:Gm.Gn true G.rs (j:Int)
    ·obtain rfl:nb=false:=HNB.out.trans (Gm.tr_no.2 (fun h=>h.2 hp))
     have hs0:=(HU3.out.below HE4.out HU3.out.lt).cell zas j 0 (by rw[Gm.szL_len];exact hj) _ rfl
     have esz:(Gm.szL G)[j]'(by rw[Gm.szL_len];exact hj)=Gm.szC G [-1-(j:Int)]:=by
      have e1:=Gm.szL_at (G:=G) hj
      rw[List.getD_eq_getElem?_getD,List.getElem?_eq_getElem (by rw[Gm.szL_len];exact hj)]at e1
      simp only[Option.getD_some]at e1
      rw[e1,Gm.szN,if_pos hp]
     rw[esz,Nat.add_zero]at hs0
     have hle:=Gm.szC_le (G:=G) (l:=[-1-(j:Int)])
     have HTE:Hid (Gm.trE G (j:Int)=if(Gm.ltree G [-1-(j:Int)]).length≤300 then 0 else 13):=aA (by unfold Gm.trE;rw[if_pos ⟨HQ.out,by omega,hn1⟩,if_pos (Gm.tr_iff.2 hp)])
     have hkb:=(HE4.out.block _ hlb).trans HKB.out
     have x0:=cell_of_row we _ 0 _ _ _ hkb
     have x1:=cell_of_row we _ 1 _ _ _ hkb
     have x2:=cell_of_row we _ 2 _ _ _ hkb
     have x3:=cell_of_row we _ 3 _ _ _ hkb
     have lb:=(Array.getElem?_eq_some_iff.1 hkb).1
     have ls:gS<we.heap.size:=Nat.lt_of_lt_of_le HU3.out.lt HE4.out.size
     generalize (Gm.szC G [-1-(j:Int)]).1=s at *
     have hz3:decide ((300:Int)<(s:Int))=decide (300<s):=by rw[Bool.eq_iff_iff,decide_eq_true_eq,decide_eq_true_eq];omega
     by_cases h3:s≤300
     ·have HT0:Hid (Gm.trE G (j:Int)=0):=aA (by rw[HTE.out,if_pos (hle.1 h3)])
      have HTL:Hid (Gm.trL G (j:Int)=oiN (Gm.ltree G [-1-(j:Int)])):=aA (by unfold Gm.trL;rw[if_pos HT0.out])
      have d3:decide (300<s)=false:=decide_eq_false (by omega)
      rw[d3]at hz3
      have HWT:=aA (zev G HOK.out HF.out AR' cR' gH gL gS B _ j hp (Nat.le_refl _) (.slice none 0 0) [] we.heap.size we (aJ.nil _ _) (Nat.le_refl _) (Nat.le_trans HB.out HQE.out.below.size) (Nat.lt_of_lt_of_le HU2.out.lt HE4.out.size) (HU2.out.below HE4.out HU2.out.lt) (HR4.out.blw HE4.out (Nat.le_trans HB.out HB4.out.below.size)) (by have:=hle.1 h3;simp;omega))
      clear esz HTE hp h3 hle hkb d3
      go_upto_region 8 with fail
      go_wp2_with fail
      refine HWT.out.mono ?_;rintro _ wf ⟨v',rfl,ho,hbf,_⟩
      have HOF:Hid (aJ wf we.heap.size v' (Gm.trL G (j:Int))):=aA (by rw[HTL.out];exact ho)
      have HBF:=aA (HQE.out.below.trans (hbf.mono HQE.out.below.size))
      clear ho hbf
      go_wp2
      go_ret2
      exact aV.yes HT0.out HOF.out HBF.out
     ·have HT0:Hid (Gm.trE G (j:Int)=13):=aA (by rw[HTE.out,if_neg (fun h=>h3 (hle.2 h))])
      have d3:decide (300<s)=true:=decide_eq_true (by omega)
      rw[d3]at hz3
      clear esz HTE hp h3 hle hkb d3
      go_wp2
      go_ret2
      exact aV.no HT0.out (Gm.trL_no (by rw[HT0.out];decide)) HQE.out.below
    ·obtain rfl:nb=true:=HNB.out.trans (Gm.tr_iff.2 ⟨by omega,hp⟩)
     have HTE:Hid (Gm.trE G (j:Int)=9):=aA (by unfold Gm.trE;rw[if_pos ⟨HQ.out,by omega,hn1⟩,if_neg (fun h=>hp (Gm.tr_iff.1 h))])
     clear hp
     go_wp2
     go_ret2
     exact aV.no HTE.out (Gm.trL_no (by rw[HTE.out];decide)) HQE.out.below
   ·have HE:=aA (Gm.trE_arg (G:=G) (n:=n) (by omega))
    have d1:decide ((G.ns.length:Int)≤n)=true:=decide_eq_true (by omega)
    clear hn0 hn1
    go_wp2
    go_ret2
    exact aV.no HE.out (Gm.trL_no (by rw[HE.out];decide)) HB2.out.below
theorem zej (G:Gm.Gr) (B:Nat) (z:Int) (hz:Gm.In z) (a:Array Value) (w y:World) (hg:aN y B (.agg a) G) (ho:One w a y) :
  Calls Tryz.prog 29 #[.int .i64 z,.pointer (some ⟨w.heap.size,0,none⟩)] y fun e w'=>e=.returned (.bool (!Gm.has G z))∧Below y.heap.size y w':=by
 have H:=aA (zdB (.agg a) G B z hz y hg)
 obtain⟨AT,cT,AN,cN,AR,cR,hv,_⟩:=hg
 injection hv with hv
 subst hv
 have q0:=ho.c 0 _ rfl
 have q1:=ho.c 1 _ rfl
 have q2:=ho.c 2 _ rfl
 have q3:=ho.c 3 _ rfl
 have hs:w.heap.size<y.heap.size:=ho.size
 clear ho
 go_enter Tryz.func29,Tryz.ntmps29
 go_wp2_with fail
 refine H.out.mono ?_;rintro _ w2 ⟨rfl,hb⟩
 have HB:=aA hb
 clear hb
 go_wp2
 go_ret
 exact⟨rfl,HB.out⟩
theorem Gm.has_sin {G:Gm.Gr} {z:Int} (h:Gm.has G z=true):z<0→-1-z<(G.ns.length:Int):=by
 intro hz
 unfold Gm.has at h
 rw[if_neg (by omega)]at h
 exact of_decide_eq_true h
theorem Gm.any_neH {G:Gm.Gr} (hok:Gm.Ok G) {l:List Int} (h:l.all (Gm.has G)=true):l.any (Gm.neH (Gm.htI G))=Gm.tr (¬Gm.Pr G l):=by
 rw[Bool.eq_iff_iff,Gm.tr_iff,List.any_eq_true]
 have hs:=fun z hz=>Gm.has_sin (List.all_eq_true.1 h z hz)
 constructor
 ·rintro⟨z,hz,e⟩ hp
  rw[Gm.neH_htI hok (hs z hz),Gm.tr_iff]at e
  exact e.2 (hp z hz e.1)
 ·intro hn
  refine Classical.byContradiction fun hc=>hn fun z hz h0=>?_
  refine Classical.byContradiction fun hg=>hc ⟨z,hz,?_⟩
  rw[Gm.neH_htI hok (hs z hz),Gm.tr_iff]
  exact⟨h0,hg⟩
theorem zbV (v:Value) (G:Gm.Gr) (l:List Int) (A:Option Addr) (c B:Nat) (w:World) (hg:aN w B v G) (hf:Gm.Fit G) (hB:B≤w.heap.size) (hr:RdI w B A l) (hin:∀z∈l,Gm.In z) (hl:l.length≤1000000) :
  Calls Tryz.prog 16 #[v,.slice A l.length c] w (aV (Gm.wdL G l) (Gm.wdE G l) w):=by
 have H1:=aA (fun(x:World) (h:Below w.heap.size w x)=>za6 v G B x (hg.below h hB) hf (Nat.le_trans hB h.size))
 have H2:=aA (fun(q:Gm.right G=true) (x:World) (h:Below w.heap.size w x)=>zaz v G B x (hg.below h hB) hf (Gm.right_ok.1 q) (Nat.le_trans hB h.size))
 have HGG:=aA (fun(x:World) (h:Below w.heap.size w x)=>hg.below h hB)
 obtain⟨AT,cT,AN,cN,AR,cR,rfl,_⟩:=hg
 have HS0:=aA (One.start w #[.slice AT G.ts.length cT,.slice AN G.ns.length cN,.slice AR G.rs.length cR,.int .i64 G.st])
 have H3:=aA (fun(x:World) (h:One w #[.slice AT G.ts.length cT,.slice AN G.ns.length cN,.slice AR G.rs.length cR,.int .i64 G.st] x)=>zc9 29 (.pointer (some ⟨w.heap.size,0,none⟩)) (zcF Tryz.func29 (by kernel_rfl) (by kernel_rfl)) l (fun z=>!Gm.has G z) A c B x (hr.below h.below hB) (Nat.le_trans hB h.below.size) (by omega)
  (fun y z hy hz=>zej G B z (hin z hz) _ w y (HGG.out y (h.on hy).below) (h.on hy)))
 have HNA:l.any (fun z=>!Gm.has G z) = !l.all (Gm.has G):=by rw[List.all_eq_not_any_not];simp
 rw[HNA]at H3
 have hmf:∀(fn:Fn) (first cap:Array Value) (w:World),(Instr.makeFunc fn first cap).run Tryz.prog w=.ok (.func fn first cap) w:=fun _ _ _ _=>rfl
 have HF:=aA hf
 have HB:=aA hB
 have HR:=aA hr
 have HIN:=aA hin
 have HL:=aA hl
 clear hf hB hr hin hl HNA
 cases q:Gm.right G with
 | false =>
  rw[q]at H1
  have HE:=aA (Gm.wdE_arg (G:=G) (l:=l) (by rw[q];simp))
  clear q H2 H3
  go_enter Tryz.func16,Tryz.ntmps16
  go_wp2_with fail
  refine(H1.out _ HS0.out.below).mono ?_;rintro _ w2 ⟨rfl,hb⟩
  have HB2:=aA (HS0.out.on hb)
  clear hb
  go_wp2
  go_ret2
  exact aV.no HE.out (Gm.wdL_no (by rw[HE.out];decide)) HB2.out.below
 | true =>
  have H2:=aA (H2.out q)
  have HOK:=aA (Gm.right_ok.1 q)
  have HQ:=aA q
  rw[q]at H1
  clear q
  cases ha:l.all (Gm.has G) with
  | false =>
   rw[ha]at H3
   have HE:=aA (Gm.wdE_arg (G:=G) (l:=l) (by rw[ha];simp))
   clear ha H2
   go_enter Tryz.func16,Tryz.ntmps16
   go_wp2_with fail
   refine(H1.out _ HS0.out.below).mono ?_;rintro _ w2 ⟨rfl,hb⟩
   have HB2:=aA (HS0.out.on hb)
   clear hb
   go_wp2_with fail
   refine(H3.out _ HB2.out).mono ?_;rintro _ w3 ⟨rfl,hb⟩
   have HB3:=aA (HB2.out.on hb)
   clear hb
   go_wp2
   go_ret2
   exact aV.no HE.out (Gm.wdL_no (by rw[HE.out];decide)) HB3.out.below
  | true =>
   rw[ha]at H3
   have HA:=aA ha
   have HWE:Hid (Gm.wdE G l=if Gm.tr (Gm.Pr G l)=true then(if(Gm.ltree G l).length≤300∧(Gm.lword G l).length≤60 then 0 else 13) else 9):=aA (by unfold Gm.wdE;rw[if_pos ⟨HQ.out,ha⟩])
   clear ha
   go_enter Tryz.func16,Tryz.ntmps16
   go_wp2_with fail
   refine(H1.out _ HS0.out.below).mono ?_;rintro _ w2 ⟨rfl,hb⟩
   have HB2:=aA (HS0.out.on hb)
   clear hb
   go_wp2_with fail
   refine(H3.out _ HB2.out).mono ?_;rintro _ w3 ⟨rfl,hb⟩
   have HB3:=aA (HB2.out.on hb)
   have q0:=HB3.out.c 0 _ rfl
   have q1:=HB3.out.c 1 _ rfl
   have q2:=HB3.out.c 2 _ rfl
   have q3:=HB3.out.c 3 _ rfl
   have hz3:w.heap.size<w3.heap.size:=HB3.out.size
   clear hb H1 H3 HB2 HS0
   go_upto_region 5 with fail
   refine(H2.out _ HB3.out.below).mono ?_;rintro _ w4 ⟨AR',cR',gH,gL,gS,rfl,h1,h2,h3,u1,u2,u3,hR4,hb4⟩
   obtain⟨w5,hw5⟩:∃y,y=w4.alloc (.cells #[.slice AR' G.rs.length cR',.slice (some ⟨gH,0,none⟩) G.ns.length G.ns.length,.slice (some ⟨gL,0,none⟩) G.ns.length G.ns.length,.slice (some ⟨gS,0,none⟩) G.ns.length G.ns.length] 48):=⟨_,rfl⟩
   have hb45:Below w4.heap.size w4 w5:=by rw[hw5];exact(Below.refl _ _).alloc (Nat.le_refl _) _
   have HKB:Hid (w5.heap[w4.heap.size]?=some (.cells #[.slice AR' G.rs.length cR',.slice (some ⟨gH,0,none⟩) G.ns.length G.ns.length,.slice (some ⟨gL,0,none⟩) G.ns.length G.ns.length,.slice (some ⟨gS,0,none⟩) G.ns.length G.ns.length] 48 (0,0))):=aA (by rw[hw5];exact heap_alloc_new w4 _)
   have HB5:=aA (HB3.out.on (hb4.trans (hb45.mono hb4.size)))
   have HU1:=aA (u1.below hb45 u1.lt)
   have HU2:=aA (u2.below hb45 u2.lt)
   have HU3:=aA (u3.below hb45 u3.lt)
   have HR5:=aA (hR4.blw hb45 (by have h:=HB.out;have h':=HB3.out.below.size;have:=hb4.size;omega))
   clear h1 h2 h3 u1 u2 u3 hR4 hb45 hb4 q0 q1 q2 q3 hz3 H2
   have HSN:=aA (fun z hz=>Gm.has_sin (List.all_eq_true.1 HA.out z hz))
   have HNV:=aA (fun(x:World) (h:Below w5.heap.size w5 x)=>zeo 24 (.agg #[.slice AR' G.rs.length cR',.slice (some ⟨gH,0,none⟩) G.ns.length G.ns.length,.slice (some ⟨gL,0,none⟩) G.ns.length G.ns.length,.slice (some ⟨gS,0,none⟩) G.ns.length G.ns.length]) (zcF Tryz.func24 (by kernel_rfl) (by kernel_rfl)) l (Gm.neH (Gm.htI G)) A c B x ((HR.out.below HB5.out.below HB.out).below h (Nat.le_trans HB.out HB5.out.below.size)) (Nat.le_trans HB.out (Nat.le_trans HB5.out.below.size h.size)) (by have:=HL.out;omega)
    (fun y z hy hz=>zck z (Gm.htI G) AR' G.rs.length cR' gH gL gS G.ns.length y (HIN.out z hz) (fun h0=>by rw[Gm.htI_len];exact HSN.out z hz h0) Gm.htI_len.symm (HU1.out.below (h.trans (hy.mono h.size)) HU1.out.lt)))
   rw[Gm.any_neH HOK.out HA.out]at HNV
   have x0:=cell_of_row w5 _ 0 _ _ _ HKB.out
   have x1:=cell_of_row w5 _ 1 _ _ _ HKB.out
   have x2:=cell_of_row w5 _ 2 _ _ _ HKB.out
   have x3:=cell_of_row w5 _ 3 _ _ _ HKB.out
   have lb:=(Array.getElem?_eq_some_iff.1 HKB.out).1
   obtain⟨nb,hnb⟩:∃nb,nb=Gm.tr (¬Gm.Pr G l):=⟨_,rfl⟩
   rw[←hnb]at HNV
   have HNB:=aA hnb
   clear hnb
   go_upto_region 5 with fail
   rw[←hw5]
   clear hw5
   go_wp2_with fail
   refine(HNV.out w5 (Below.refl _ _)).mono ?_;rintro _ w6 ⟨rfl,hb⟩
   have HB6:=aA (HB5.out.on hb)
   have HW6:=aA hb
   clear hb x0 x1 x2 x3 HNV
   by_cases hp:Gm.Pr G l
   ·obtain rfl:nb=false:=HNB.out.trans (Gm.tr_no.2 (fun h=>h hp))
    have HE:=aA (HWE.out.trans (if_pos (Gm.tr_iff.2 hp)))
    have hkb:=(HW6.out.block _ lb).trans HKB.out
    have x0:=cell_of_row w6 _ 0 _ _ _ hkb
    have x1:=cell_of_row w6 _ 1 _ _ _ hkb
    have x2:=cell_of_row w6 _ 2 _ _ _ hkb
    have x3:=cell_of_row w6 _ 3 _ _ _ hkb
    have lb6:=(Array.getElem?_eq_some_iff.1 hkb).1
    have HKB6:=aA hkb
    have HSZ:=aA (zbX l (Gm.szL G) AR' A G.rs.length cR' gH gL gS G.ns.length c B w6 ((HR.out.below HB6.out.below HB.out)) (Nat.le_trans HB.out HB6.out.below.size) (HU3.out.below HW6.out HU3.out.lt) HIN.out (fun z hz h0=>by rw[Gm.szL_len];exact HSN.out z hz h0) (fun i=>by
     rcases Nat.lt_or_ge i G.ns.length with hi|hi
     ·rw[Gm.szL_at hi];have:=Gm.szN_le G i;omega
     ·rw[List.getD_eq_getElem?_getD,List.getElem?_eq_none (by rw[Gm.szL_len];exact hi)];simp) Gm.szL_len.symm HL.out)
    rw[Gm.szL_of HOK.out hp]at HSZ
    have hle1:=Gm.szC_le (G:=G) (l:=l)
    have hle2:=Gm.szC_le2 (G:=G) (l:=l)
    generalize Gm.szC G l=s at *
    obtain⟨s1,s2⟩:=s
    simp only at hle1 hle2
    have HWW:=aA (fun(h300:(Gm.lword G l).length≤60) (x:World) (h:Below w6.heap.size w6 x)=>zeu G HOK.out HF.out AR' cR' gH gL gS B _ l hp (Nat.le_refl _) HIN.out HL.out A c (.slice none 0 0) [] x.heap.size x (aJ.nil _ _) (Nat.le_refl _) (Nat.le_trans HB.out (Nat.le_trans HB6.out.below.size h.size)) (Nat.lt_of_lt_of_le HU2.out.lt (Nat.le_trans HW6.out.size h.size)) ((HU2.out.below HW6.out HU2.out.lt).below h (Nat.lt_of_lt_of_le HU2.out.lt HW6.out.size)) ((HR5.out.blw HW6.out (Nat.le_trans HB.out HB5.out.below.size)).blw h (Nat.le_trans HB.out HB6.out.below.size)) ((HR.out.below HB6.out.below HB.out).below h (Nat.le_trans HB.out HB6.out.below.size)) (by simp;omega))
    clear hkb hp
    go_upto_region 8 with fail
    refine HSZ.out.mono ?_;rintro _ w7 ⟨rfl,hb⟩
    obtain⟨w8,hw8⟩:∃y,y=w7.alloc (.cells #[.int .i64 (s1:Int),.int .i64 (s2:Int)] 54):=⟨_,rfl⟩
    have hb78:Below w7.heap.size w7 w8:=by rw[hw8];exact(Below.refl _ _).alloc (Nat.le_refl _) _
    have hbs:w8.heap[w7.heap.size]?=some (.cells #[.int .i64 (s1:Int),.int .i64 (s2:Int)] 54 (0,0)):=by rw[hw8];exact heap_alloc_new w7 _
    have HB68:=aA (hb.trans (hb78.mono hb.size))
    have HB8:=aA (HB6.out.on HB68.out)
    clear x0 x1 x2 x3
    have hkb:=(HB68.out.block _ lb6).trans HKB6.out
    have x0:=cell_of_row w8 _ 0 _ _ _ hkb
    have x1:=cell_of_row w8 _ 1 _ _ _ hkb
    have x2:=cell_of_row w8 _ 2 _ _ _ hkb
    have x3:=cell_of_row w8 _ 3 _ _ _ hkb
    have lb8:=(Array.getElem?_eq_some_iff.1 hkb).1
    have y0:=cell_of_row w8 _ 0 _ _ _ hbs
    have y1:=cell_of_row w8 _ 1 _ _ _ hbs
    have ly:=(Array.getElem?_eq_some_iff.1 hbs).1
    clear hb hb78 hbs hkb lb6 lb HSZ
    go_upto_region 8 with fail
    rw[←hw8]
    clear hw8
    have hz1:decide ((300:Int)<(s1:Int))=decide (300<s1):=by rw[Bool.eq_iff_iff,decide_eq_true_eq,decide_eq_true_eq];omega
    have hz2:decide ((60:Int)<(s2:Int))=decide (60<s2):=by rw[Bool.eq_iff_iff,decide_eq_true_eq,decide_eq_true_eq];omega
    by_cases h1:s1≤300
    ·have d1:decide (300<s1)=false:=decide_eq_false (by omega)
     rw[d1]at hz1
     by_cases h2:s2≤60
     ·have d2:decide (60<s2)=false:=decide_eq_false (by omega)
      rw[d2]at hz2
      have HT0:Hid (Gm.wdE G l=0):=aA (by rw[HE.out,if_pos ⟨hle1.1 h1,hle2.1 h2⟩])
      have HTL:Hid (Gm.wdL G l=Gm.lword G l):=aA (by unfold Gm.wdL;rw[if_pos HT0.out])
      have HWX:=aA (HWW.out (hle2.1 h2) w8 HB68.out)
      clear h1 h2 hle1 hle2 d1 d2 HWW
      go_wp2_with fail
      refine HWX.out.mono ?_;rintro _ wf ⟨v',rfl,ho,hbf,_⟩
      have HOF:Hid (aJ wf w8.heap.size v' (Gm.wdL G l)):=aA (by rw[HTL.out];exact ho)
      have HBF:=aA (HB8.out.below.trans (hbf.mono HB8.out.below.size))
      clear ho hbf
      go_wp2
      go_ret2
      exact aV.yes HT0.out HOF.out HBF.out
     ·have d2:decide (60<s2)=true:=decide_eq_true (by omega)
      rw[d2]at hz2
      have HT0:Hid (Gm.wdE G l=13):=aA (by rw[HE.out,if_neg (fun h=>h2 (hle2.2 h.2))])
      clear h1 h2 hle1 hle2 d1 d2 HWW
      go_wp2
      go_ret2
      exact aV.no HT0.out (Gm.wdL_no (by rw[HT0.out];decide)) HB8.out.below
    ·have d1:decide (300<s1)=true:=decide_eq_true (by omega)
     rw[d1]at hz1
     have HT0:Hid (Gm.wdE G l=13):=aA (by rw[HE.out,if_neg (fun h=>h1 (hle1.2 h.1))])
     clear h1 hle1 hle2 d1 HWW
     go_wp2
     go_ret2
     exact aV.no HT0.out (Gm.wdL_no (by rw[HT0.out];decide)) HB8.out.below
   ·obtain rfl:nb=true:=HNB.out.trans (Gm.tr_iff.2 hp)
    have HE:=aA (HWE.out.trans (if_neg (fun h=>hp (Gm.tr_iff.1 h))))
    clear hp
    go_wp2
    go_ret2
    exact aV.no HE.out (Gm.wdL_no (by rw[HE.out];decide)) HB6.out.below
theorem zgd (A A':Option Addr) (ca cb:Nat) (xs ys:List Int) (w:World) (hra:RdI w w.heap.size A xs) (hrb:RdI w w.heap.size A' ys) (hxl:xs.length≤9223372036854775807) (hyl:ys.length≤9223372036854775807) :
  Calls Tryz.prog 9 #[.slice A xs.length ca,.slice A' ys.length cb] w fun e w'=>e=.returned (.bool (decide (xs=ys)))∧∃n,w'=w.drewN n:=by
 by_cases hl:xs.length=ys.length
 ·have HL:=aA hl
  rw[←hl]
  have hne:((xs.length:Int) != (xs.length:Int))=false:=by simp
  clear hl hyl
  go_enter Tryz.func9,Tryz.ntmps9
  go_wp2
  go_loopw [5] (fun vi wr=>∃(k q:Nat),k≤xs.length∧vi=.int .i64 k∧xs.take k=ys.take k∧wr=w.drewN q) (fun vi _=>xs.length-(intOf vi).toNat)
  case atStart=>exact⟨0,0,Nat.zero_le _,rfl,rfl,rfl⟩
  case round =>
   obtain⟨k,q,hk,rfl,ht,hwr⟩:=hrel
   have HT:=aA ht
   have HW:=aA hwr
   by_cases hlt:k<xs.length
   ·obtain⟨ga,oa,rfl,_,ha⟩:=hra (by omega)
    obtain⟨gb,ob,rfl,_,hb⟩:=hrb (by have:=HL.out;omega)
    have ca':wr.cell? ⟨ga,oa+k,none⟩=some (.int .i64 (xs.getD k 0)):=by rw[hwr];exact ha k hlt
    have cb':wr.cell? ⟨gb,ob+k,none⟩=some (.int .i64 (ys.getD k 0)):=by rw[hwr];exact hb k (by have:=HL.out;omega)
    have k0:(0:Int)≤(k:Int):=by omega
    have k1:(k:Int)<(xs.length:Int):=by omega
    clear ha hb ht hwr hra hrb
    by_cases hxy:xs.getD k 0=ys.getD k 0
    ·have HN:Hid (xs.take (k+1)=ys.take (k+1)):=by
      show xs.take (k+1)=ys.take (k+1)
      rw[L.take_snoc xs k hlt,L.take_snoc ys k (by have:=HL.out;omega),HT.out,hxy]
     rw[←hxy]at cb'
     generalize xs.getD k 0=x at *
     have hx':(x != x)=false:=by simp
     clear hxy
     go_wp2_with fail
     go_quiet (fail)
     go_wp2
     go_roundw
     case rel=>exact⟨k+1,_,hlt,by go_num,HN.out,by rw[HW.out];exact World.drewN_drewN _ _ _⟩
     case measure=>simp[intOf];omega
    ·have HN:Hid (decide (xs=ys)=false):=by
      show decide (xs=ys)=false
      rw[decide_eq_false_iff_not];rintro rfl;exact hxy rfl
     generalize xs.getD k 0=x at *
     generalize ys.getD k 0=y at *
     have hx':(x != y)=true:=by simpa using hxy
     clear hxy
     go_wp2_with fail
     go_quiet (fail)
     go_wp2
     go_ret
     exact⟨aC HN.out.symm,_,by rw[HW.out,World.drewN_drewN]⟩
   ·obtain rfl:k=xs.length:=by omega
    have HE:Hid (decide (xs=ys)=true):=by
     show decide (xs=ys)=true
     rw[decide_eq_true_iff]
     have h:=HT.out
     rwa [List.take_length,HL.out,List.take_length]at h
    clear ht
    subst hwr
    go_wp2
    go_ret
    exact⟨aC HE.out.symm,_,rfl⟩
 ·have HE:Hid (decide (xs=ys)=false):=by
   show decide (xs=ys)=false
   rw[decide_eq_false_iff_not];rintro rfl;exact hl rfl
  have hne:((xs.length:Int) != (ys.length:Int))=true:=by simp;omega
  go_enter Tryz.func9,Tryz.ntmps9
  go_wp2
  go_ret
  exact⟨aC HE.out.symm,0,rfl⟩
theorem Gm.trL_len (G:Gm.Gr) (n:Int):(Gm.trL G n).length≤9223372036854775807:=by
 by_cases h:Gm.trE G n=0
 ·unfold Gm.trL
  rw[if_pos h,List.length_map]
  unfold Gm.trE at h
  split at h
  ·split at h
   ·split at h
    ·omega
    ·omega
   ·omega
  ·omega
 ·rw[Gm.trL_no h];simp
theorem Gm.wdL_len (G:Gm.Gr) (l:List Int):(Gm.wdL G l).length≤9223372036854775807:=by
 by_cases h:Gm.wdE G l=0
 ·unfold Gm.wdL
  rw[if_pos h]
  unfold Gm.wdE at h
  split at h
  ·split at h
   ·split at h
    ·omega
    ·omega
   ·omega
  ·omega
 ·rw[Gm.wdL_no h];simp
theorem zai (A A':Option Addr) (ca cb n:Nat) (xs:List Int) (w:World) (hra:RdI w w.heap.size A xs) (hrb:RdI w w.heap.size A' xs) (hxl:xs.length≤9223372036854775807) (hn:n=xs.length) :
  Calls Tryz.prog 9 #[.slice A n ca,.slice A' n cb] w fun e w'=>e=.returned (.bool true)∧∃n,w'=w.drewN n:=by
 subst hn
 exact(zgd A A' ca cb xs xs w hra hrb hxl hxl).mono fun e w' h=>⟨by rw[h.1,decide_eq_true rfl],h.2⟩
theorem zaL (w:World):Calls Tryz.prog 7 #[] w fun e w'=>e=.returned (.bool true)∧Below w.heap.size w w':=by
 have T1:=aA (zbZ zhQ aR (by decide) (by decide) zif w w.heap.size rfl)
 have U1:=(show(convert 45 45 (.slice (some ⟨w.heap.size,0,none⟩) 28 28)).run Tryz.prog (w.alloc (.cells #[.int .u8 37,.int .u8 37,.int .u8 32,.int .u8 115,.int .u8 32,.int .u8 58,.int .u8 32,.int .u8 115,.int .u8 32,.int .u8 39,.int .u8 97,.int .u8 39,.int .u8 32,.int .u8 124,.int .u8 32,.int .u8 116,.int .u8 32,.int .u8 59,.int .u8 32,.int .u8 116,.int .u8 32,.int .u8 58,.int .u8 32,.int .u8 39,.int .u8 98,.int .u8 39,.int .u8 32,.int .u8 59] 5))=.ok (.slice (some ⟨w.heap.size,0,none⟩) 28 28) (w.alloc (zbe zhQ)) from zdW w zhQ 28 28)
 have HT2:=aA (fun(x:World) (n:Nat) (h:n=x.heap.size)=>zbZ zfs aK (by decide) (by decide) zhJ x n h)
 have HU2:=aA (fun x:World=>(show(convert 45 45 (.slice (some ⟨x.heap.size,0,none⟩) 66 66)).run Tryz.prog (x.alloc (.cells #[.int .u8 37,.int .u8 37,.int .u8 32,.int .u8 97,.int .u8 32,.int .u8 58,.int .u8 32,.int .u8 98,.int .u8 32,.int .u8 98,.int .u8 32,.int .u8 98,.int .u8 32,.int .u8 98,.int .u8 32,.int .u8 98,.int .u8 32,.int .u8 98,.int .u8 32,.int .u8 59,.int .u8 32,.int .u8 98,.int .u8 32,.int .u8 58,.int .u8 32,.int .u8 99,.int .u8 32,.int .u8 99,.int .u8 32,.int .u8 99,.int .u8 32,.int .u8 99,.int .u8 32,.int .u8 99,.int .u8 32,.int .u8 99,.int .u8 32,.int .u8 59,.int .u8 32,.int .u8 99,.int .u8 32,.int .u8 58,.int .u8 32,.int .u8 100,.int .u8 32,.int .u8 100,.int .u8 32,.int .u8 100,.int .u8 32,.int .u8 100,.int .u8 32,.int .u8 100,.int .u8 32,.int .u8 100,.int .u8 32,.int .u8 59,.int .u8 32,.int .u8 100,.int .u8 32,.int .u8 58,.int .u8 32,.int .u8 39,.int .u8 100,.int .u8 39,.int .u8 32,.int .u8 59] 5))=.ok (.slice (some ⟨x.heap.size,0,none⟩) 66 66) (x.alloc (zbe zfs)) from zdW x zfs 66 66))
 have hl1:zhQ.length=28:=rfl
 have hl2:zfs.length=66:=rfl
 rw[hl1]at T1
 rw[hl2]at HT2
 clear hl1 hl2
 have hs1:∀(x:World) (o:Obj),(x.alloc o).heap.size=x.heap.size+1:=fun x o=>by simp
 go_enter Tryz.func7,Tryz.ntmps7
 go_wp2_with fail
 refine T1.out.mono ?_;rintro _ w1 ⟨⟨g,rfl,hg1,hft1⟩,hb1⟩
 have HTR:=aA (fun(x:World) (h:Below w1.heap.size w1 x)=>(show Calls Tryz.prog 14 #[g,.int .i64 0] x (fun e w'=>∃A c,e=.returned (.tuple #[.slice A 2 c,.int .i64 0])∧RdI w' w'.heap.size A [1,2]∧Below x.heap.size x w') from(zbW g aR 0 w1.heap.size x (hg1.below h (Nat.le_refl _)) hft1 (by unfold Gm.In;decide) h.size).mono fun e w' k=>by obtain⟨A,c,k1,_,k3,k4⟩:=k;rw[zh6]at k1 k3;rw[zhm]at k1;exact⟨A,c,k1,k3,k4⟩))
 have HWD:=aA (fun(x:World) (h:Below w1.heap.size w1 x)=>(show Calls Tryz.prog 16 #[g,.slice (some ⟨x.heap.size,0,none⟩) 2 2] (x.alloc (.cells #[.int .i64 (-1),.int .i64 0] 3)) (fun e w'=>∃A c,e=.returned (.tuple #[.slice A 2 c,.int .i64 0])∧RdI w' w'.heap.size A [1,0]∧Below (x.alloc (zan [-1,0])).heap.size (x.alloc (zan [-1,0])) w') from(zbV g aR [-1,0] (some ⟨x.heap.size,0,none⟩) 2 (x.alloc (zan [-1,0])).heap.size (x.alloc (zan [-1,0])) ((hg1.below (h.alloc h.size _) (Nat.le_refl _)).more (Nat.le_trans h.size (by simp))) hft1 (Nat.le_refl _) (zdt x [-1,0]).1 (by unfold Gm.In;simp) (by decide)).mono fun e w' k=>by obtain⟨A,c,k1,_,k3,k4⟩:=k;rw[zh5]at k1 k3;rw[zhk]at k1;exact⟨A,c,k1,k3,k4⟩))
 have HHE:=aA (fun(x:World) (h:Below w1.heap.size w1 x)=>(show Calls Tryz.prog 10 #[g] x (fun e w'=>∃q,e=.returned (.slice (some ⟨q,0,none⟩) 2 2)∧UBI w' q [2,1]∧Below x.heap.size x w') from(zaQ g aR w1.heap.size x (hg1.below h (Nat.le_refl _)) hft1 h.size).mono fun e w' k=>by obtain⟨q,k1,_,k3,k4⟩:=k.1 zbI;rw[zie]at k1 k3;exact⟨q,k1,k3,k4⟩))
 have HRU:=aA (fun(x:World) (h:Below w1.heap.size w1 x)=>(show Calls Tryz.prog 12 #[g] x (fun e w'=>∃q,e=.returned (.slice (some ⟨q,0,none⟩) 2 2)∧UBI w' q [1,2]∧Below x.heap.size x w') from(zbj g aR w1.heap.size x (hg1.below h (Nat.le_refl _)) hft1 h.size).mono fun e w' k=>by obtain⟨q,k1,_,k3,k4⟩:=k.1 zbI;rw[zhX]at k1 k3;exact⟨q,k1,k3,k4⟩))
 obtain⟨AT,cT,AN,cN,AR,cR,rfl,_,_,_,_,_,_⟩:=hg1
 have HQ1:=aA (One.start w1 #[.slice AT aR.ts.length cT,.slice AN aR.ns.length cN,.slice AR aR.rs.length cR,.int .i64 aR.st])
 have HY1:=aA (fun(x:World) (h:One w1 #[.slice AT aR.ts.length cT,.slice AN aR.ns.length cN,.slice AR aR.rs.length cR,.int .i64 aR.st] x)=>And.intro (h.c 0 _ rfl) (And.intro (h.c 1 _ rfl) (And.intro (h.c 2 _ rfl) (h.c 3 _ rfl))))
 have HBF:=aA (fun(x:World) (h:One w1 #[.slice AT aR.ts.length cT,.slice AN aR.ns.length cN,.slice AR aR.rs.length cR,.int .i64 aR.st] x)=>hb1.trans (h.below.mono hb1.size))
 clear hb1 U1 T1 hft1
 obtain⟨wa,hwa⟩:∃y,y=w1.alloc (.cells #[.slice AT aR.ts.length cT,.slice AN aR.ns.length cN,.slice AR aR.rs.length cR,.int .i64 aR.st] 26):=⟨_,rfl⟩
 rw[←hwa]at HQ1
 have U2:=HU2.out wa
 go_upto_region 2 with fail
 rw[←hwa]
 clear hwa HU2
 go_wp2_with fail
 refine(HT2.out wa wa.heap.size rfl).mono ?_;rintro _ w2 ⟨⟨h,rfl,hg2,hft2⟩,hb2⟩
 have HTB:=aA (fun(x:World) (k:Below w2.heap.size w2 x)=>(show Calls Tryz.prog 14 #[h,.int .i64 0] x (fun e w'=>∃A c n,e=.returned (.tuple #[.slice A n c,.int .i64 0])∧Below x.heap.size x w') from(zbW h aK 0 w2.heap.size x (hg2.below k (Nat.le_refl _)) hft2 (by unfold Gm.In;decide) k.size).mono fun e w' k=>by obtain⟨A,c,k1,_,k3,k4⟩:=k;rw[zhl]at k1;exact⟨A,c,_,k1,k4⟩))
 have HWB:=aA (fun(x:World) (k:Below w2.heap.size w2 x)=>(show Calls Tryz.prog 16 #[h,.slice (some ⟨x.heap.size,0,none⟩) 2 2] (x.alloc (.cells #[.int .i64 (-2),.int .i64 (-2)] 3)) (fun e w'=>∃A c n,e=.returned (.tuple #[.slice A n c,.int .i64 13])∧Below (x.alloc (zan [-2,-2])).heap.size (x.alloc (zan [-2,-2])) w') from(zbV h aK [-2,-2] (some ⟨x.heap.size,0,none⟩) 2 (x.alloc (zan [-2,-2])).heap.size (x.alloc (zan [-2,-2])) ((hg2.below (k.alloc k.size _) (Nat.le_refl _)).more (Nat.le_trans k.size (by simp))) hft2 (Nat.le_refl _) (zdt x [-2,-2]).1 (by unfold Gm.In;simp) (by decide)).mono fun e w' k=>by obtain⟨A,c,k1,_,k3,k4⟩:=k;rw[zhj]at k1;exact⟨A,c,_,k1,k4⟩))
 obtain⟨BT,dT,BN,dN,BR,dR,rfl,_,_,_,_,_,_⟩:=hg2
 have HK2:=aA (HQ1.out.on hb2)
 have HQ2:=aA (One.start w2 #[.slice BT aK.ts.length dT,.slice BN aK.ns.length dN,.slice BR aK.rs.length dR,.int .i64 aK.st])
 have HY2:=aA (fun(x:World) (h:One w2 #[.slice BT aK.ts.length dT,.slice BN aK.ns.length dN,.slice BR aK.rs.length dR,.int .i64 aK.st] x)=>And.intro (h.c 0 _ rfl) (And.intro (h.c 1 _ rfl) (And.intro (h.c 2 _ rfl) (h.c 3 _ rfl))))
 have HK3:Hid (∀x,One w2 #[.slice BT aK.ts.length dT,.slice BN aK.ns.length dN,.slice BR aK.rs.length dR,.int .i64 aK.st] x→One w1 #[.slice AT aR.ts.length cT,.slice AN aR.ns.length cN,.slice AR aR.rs.length cR,.int .i64 aR.st] x):=aA (fun x h=>HK2.out.on h.below)
 clear hb2 U2 hft2 HQ1 HT2
 obtain⟨wb,hwb⟩:∃y,y=w2.alloc (.cells #[.slice BT aK.ts.length dT,.slice BN aK.ns.length dN,.slice BR aK.rs.length dR,.int .i64 aK.st] 26):=⟨_,rfl⟩
 rw[←hwb]at HQ2
 have HE0:=HQ2
 obtain⟨x0,x1,x2,x3⟩:=HY1.out wb (HK3.out _ HQ2.out)
 have l1:w1.heap.size<wb.heap.size:=(HK3.out _ HQ2.out).size
 go_upto_region 3 with fail
 rw[←hwb]
 clear hwb
 go_wp2_with fail
 refine(HTR.out wb (HK3.out _ HQ2.out).below).mono ?_;rintro _ w4 ⟨A4,c4,rfl,hr4,hb4⟩
 have HE4:=aA (HQ2.out.on hb4)
 have HR4:=aA hr4
 clear x0 x1 x2 x3 l1 hr4 hb4 HTR
 obtain⟨x0,x1,x2,x3⟩:=HY1.out w4 (HK3.out _ HE4.out)
 have l1:w1.heap.size<w4.heap.size:=(HK3.out _ HE4.out).size
 have HWX:=aA (HWD.out w4 (HK3.out _ HE4.out).below)
 go_wp2_with fail
 refine HWX.out.mono ?_;rintro _ w5 ⟨A5,c5,rfl,hr5,hb5⟩
 have HE5:=aA ((HE4.out.alloc (zan [-1,0])).on hb5)
 have HR5:=aA hr5
 have HR45:=aA (HR4.out.up ((Below.alloc (Below.refl _ _) (Nat.le_refl _) (zan [-1,0])).trans (hb5.mono (by simp))))
 clear x0 x1 x2 x3 l1 hr5 hb5 HWD HWX HR4 HE4
 obtain⟨x0,x1,x2,x3⟩:=HY2.out w5 HE5.out
 have l1:w2.heap.size<w5.heap.size:=HE5.out.size
 go_wp2_with fail
 refine(HTB.out w5 HE5.out.below).mono ?_;rintro _ w6 ⟨A6,c6,n6,rfl,hb6⟩
 have HE6:=aA (HE5.out.on hb6)
 have HR46:=aA (HR45.out.up hb6)
 have HR56:=aA (HR5.out.up hb6)
 clear x0 x1 x2 x3 l1 hb6 HTB HR45 HR5 HE5
 obtain⟨x0,x1,x2,x3⟩:=HY2.out w6 HE6.out
 have l1:w2.heap.size<w6.heap.size:=HE6.out.size
 have HWX:=aA (HWB.out w6 HE6.out.below)
 go_wp2_with fail
 refine HWX.out.mono ?_;rintro _ w7 ⟨A7,c7,n7,rfl,hb7⟩
 have HE7:=aA ((HE6.out.alloc (zan [-2,-2])).on hb7)
 have hup:=(Below.alloc (Below.refl w6.heap.size w6) (Nat.le_refl _) (zan [-2,-2])).trans (hb7.mono (by simp))
 have HR47:=aA (HR46.out.up hup)
 have HR57:=aA (HR56.out.up hup)
 clear x0 x1 x2 x3 l1 hb7 hup HWB HWX HR46 HR56 HE6
 obtain⟨x0,x1,x2,x3⟩:=HY1.out w7 (HK3.out _ HE7.out)
 have l1:w1.heap.size<w7.heap.size:=(HK3.out _ HE7.out).size
 go_wp2_with fail
 refine(HHE.out w7 (HK3.out _ HE7.out).below).mono ?_;rintro _ w8 ⟨q8,rfl,hu8,hb8⟩
 have HE8:=aA (HE7.out.on hb8)
 have HR48:=aA (HR47.out.up hb8)
 have HR58:=aA (HR57.out.up hb8)
 have HS8:=aA (show Calls Tryz.prog 9 #[.slice (some ⟨q8,0,none⟩) 2 2,.slice (some ⟨w8.heap.size,0,none⟩) 2 2] (w8.alloc (.cells #[.int .i64 2,.int .i64 1] 3)) _ from zai (some ⟨q8,0,none⟩) (some ⟨w8.heap.size,0,none⟩) 2 2 2 [2,1] (w8.alloc (zan [2,1])) ((RdI.alloc (hu8.rd0 hu8.lt) (Nat.le_refl _) _).more (by simp)) (zdt w8 [2,1]).1 (by decide) rfl)
 clear x0 x1 x2 x3 l1 hb8 hu8 HHE HR47 HR57 HE7
 go_wp2_with fail
 refine HS8.out.mono ?_;rintro _ w9 ⟨rfl,n9,hw9⟩
 have HE9:Hid (One w2 #[.slice BT aK.ts.length dT,.slice BN aK.ns.length dN,.slice BR aK.rs.length dR,.int .i64 aK.st] w9):=aA (by rw[hw9];exact(HE8.out.alloc _).drewN _)
 have hup:Below w8.heap.size w8 w9:=by rw[hw9];exact aB ((Below.refl _ _).alloc (Nat.le_refl _) _) _
 have HR49:=aA (HR48.out.up hup)
 have HR59:=aA (HR58.out.up hup)
 clear hw9 hup HS8 HR48 HR58 HE8
 obtain⟨x0,x1,x2,x3⟩:=HY1.out w9 (HK3.out _ HE9.out)
 have l1:w1.heap.size<w9.heap.size:=(HK3.out _ HE9.out).size
 go_wp2_with fail
 refine(HRU.out w9 (HK3.out _ HE9.out).below).mono ?_;rintro _ w10 ⟨q10,rfl,hu10,hb10⟩
 have HE10:=aA (HE9.out.on hb10)
 have HR410:=aA (HR49.out.up hb10)
 have HR510:=aA (HR59.out.up hb10)
 have HS10:=aA (show Calls Tryz.prog 9 #[.slice (some ⟨q10,0,none⟩) 2 2,.slice (some ⟨w10.heap.size,0,none⟩) 2 2] (w10.alloc (.cells #[.int .i64 1,.int .i64 2] 3)) _ from zai (some ⟨q10,0,none⟩) (some ⟨w10.heap.size,0,none⟩) 2 2 2 [1,2] (w10.alloc (zan [1,2])) ((RdI.alloc (hu10.rd0 hu10.lt) (Nat.le_refl _) _).more (by simp)) (zdt w10 [1,2]).1 (by decide) rfl)
 clear x0 x1 x2 x3 l1 hb10 hu10 HRU HR49 HR59 HE9
 go_wp2_with fail
 refine HS10.out.mono ?_;rintro _ w11 ⟨rfl,n11,hw11⟩
 have HE11:Hid (One w2 #[.slice BT aK.ts.length dT,.slice BN aK.ns.length dN,.slice BR aK.rs.length dR,.int .i64 aK.st] w11):=aA (by rw[hw11];exact(HE10.out.alloc _).drewN _)
 have hup:Below w10.heap.size w10 w11:=by rw[hw11];exact aB ((Below.refl _ _).alloc (Nat.le_refl _) _) _
 have HR411:=aA (HR410.out.up hup)
 have HR511:=aA (HR510.out.up hup)
 clear hw11 hup HS10 HR410 HR510 HE10
 have HS12:=aA (show Calls Tryz.prog 9 #[.slice A4 2 c4,.slice (some ⟨w11.heap.size,0,none⟩) 2 2] (w11.alloc (.cells #[.int .i64 1,.int .i64 2] 3)) _ from zai A4 (some ⟨w11.heap.size,0,none⟩) c4 2 2 [1,2] (w11.alloc (zan [1,2])) ((RdI.alloc HR411.out (Nat.le_refl _) _).more (by simp)) (zdt w11 [1,2]).1 (by decide) rfl)
 go_wp2_with fail
 refine HS12.out.mono ?_;rintro _ w12 ⟨rfl,n12,hw12⟩
 have HE12:Hid (One w2 #[.slice BT aK.ts.length dT,.slice BN aK.ns.length dN,.slice BR aK.rs.length dR,.int .i64 aK.st] w12):=aA (by rw[hw12];exact(HE11.out.alloc _).drewN _)
 have hup:Below w11.heap.size w11 w12:=by rw[hw12];exact aB ((Below.refl _ _).alloc (Nat.le_refl _) _) _
 have HR512:=aA (HR511.out.up hup)
 clear hw12 hup HS12 HR411 HR511 HE11
 have HS13:=aA (show Calls Tryz.prog 9 #[.slice A5 2 c5,.slice (some ⟨w12.heap.size,0,none⟩) 2 2] (w12.alloc (.cells #[.int .i64 1,.int .i64 0] 3)) _ from zai A5 (some ⟨w12.heap.size,0,none⟩) c5 2 2 [1,0] (w12.alloc (zan [1,0])) ((RdI.alloc HR512.out (Nat.le_refl _) _).more (by simp)) (zdt w12 [1,0]).1 (by decide) rfl)
 go_wp2_with fail
 refine HS13.out.mono ?_;rintro _ w13 ⟨rfl,n13,hw13⟩
 have HE13:Hid (One w2 #[.slice BT aK.ts.length dT,.slice BN aK.ns.length dN,.slice BR aK.rs.length dR,.int .i64 aK.st] w13):=aA (by rw[hw13];exact(HE12.out.alloc _).drewN _)
 clear hw13 HS13 HR512 HE12
 go_wp2
 go_ret
 exact⟨rfl,HBF.out _ (HK3.out _ HE13.out)⟩
theorem zdQ (H:List Nat) (m:Nat):(oiN H).getD m 0=((H.getD m 0:Nat):Int):=by
 rw[List.getD_eq_getElem?_getD,List.getD_eq_getElem?_getD,List.getElem?_map]
 cases H[m]? <;> rfl
theorem zaJ (H:List Nat):(oiN H).length=H.length:=by simp
theorem zgR (H:List Nat) (m v:Nat):(oiN H).set m (v:Int)=oiN (H.set m v):=(List.map_set ..).symm
theorem zgS (n:Nat):oiN (List.replicate n 0)=List.replicate n 0:=by simp
theorem Gm.topH_app (H:List Nat) (a b:List Int):Gm.topH H (a++b)=max (Gm.topH H a) (Gm.topH H b):=by
 induction a with
 | nil=>simp[Gm.topH]
 | cons z a ih =>
  rw[List.cons_append,Gm.topH,Gm.topH,ih]
  split
  ·rfl
  ·omega
theorem Gm.topH_take {H:List Nat} {l:List Int} {k:Nat} (h:k<l.length):Gm.topH H (l.take (k+1))=if 0≤l[k] then Gm.topH H (l.take k) else max (Gm.topH H (l.take k)) (H.getD (-1-l[k]).toNat 0):=by
 rw[List.take_succ_eq_append_getElem h,Gm.topH_app,Gm.topH,Gm.topH]
 split <;> simp
def Gm.knH (H:List Nat) (l:List Int):Prop:=∀z∈l,z<0→0<H.getD (-1-z).toNat 0
theorem Gm.knH_take {H:List Nat} {l:List Int} {k:Nat} (h:k<l.length) (hk:Gm.knH H (l.take k)) (hz:l[k]<0→0<H.getD (-1-l[k]).toNat 0):Gm.knH H (l.take (k+1)):=by
 intro z hm hn
 rw[List.take_succ_eq_append_getElem h]at hm
 rcases List.mem_append.1 hm with h1|h1
 ·exact hk z h1 hn
 ·rw[List.mem_singleton]at h1
  subst h1;exact hz hn
theorem Gm.highN_not {H:List Nat} {l:List Int} {k:Nat} (h:k<l.length) (hz:l[k]<0) (h0:H.getD (-1-l[k]).toNat 0=0):Gm.highN H l=0:=by
 unfold Gm.highN
 rw[if_neg]
 intro hc
 rw[List.all_eq_true]at hc
 have:=hc _ (List.getElem_mem h)
 rw[decide_eq_false (by omega),Bool.false_or,decide_eq_true_eq]at this
 omega
theorem zcU (x:Gm.Rl) (H:List Nat) (A A2:Option Addr) (c c2 B B2:Nat) (w:World) (hr:RdI w B A x.r) (h2:RdI w B2 A2 (oiN H)) (hB:B≤w.heap.size) (hB2:B2≤w.heap.size) (hin:∀z∈x.r,Gm.In z) (hs:∀z∈x.r,z<0→-1-z<(H.length:Int)) (hb:∀j,H.getD j 0≤1000000) (hl:x.r.length≤1000000) :
  Calls Tryz.prog 23 #[.agg #[.int .i64 x.l,.slice A x.r.length c,.int .i64 x.p],.slice A2 H.length c2] w fun e w'=>e=.returned (.int .i64 (Gm.highN H x.r:Int))∧Below w.heap.size w w':=by
 obtain⟨w1,hw1⟩:∃y,y=w.alloc (.cells #[.int .i64 x.l,.slice A x.r.length c,.int .i64 x.p] 41):=⟨_,rfl⟩
 have hb1:Below w.heap.size w w1:=by rw[hw1];exact(Below.refl _ _).alloc (Nat.le_refl _) _
 have hbx:w1.heap[w.heap.size]?=some (.cells #[.int .i64 x.l,.slice A x.r.length c,.int .i64 x.p] 41 (0,0)):=by rw[hw1];exact heap_alloc_new w _
 have q1:=cell_of_row w1 _ 1 _ _ _ hbx
 have lb:=(Array.getElem?_eq_some_iff.1 hbx).1
 have HR:=aA (hr.below hb1 hB)
 have H2:=aA (h2.below hb1 hB2)
 have HIN:=aA hin
 have HS:=aA hs
 have HBD:=aA hb
 have HB1:=aA hb1
 have HTK:=aA (fun k (h:k<x.r.length)=>Gm.topH_take (H:=H) h)
 have HKN:=aA (fun k (h:k<x.r.length) hk hz=>Gm.knH_take (H:=H) h hk hz)
 have HNO:=aA (fun k (h:k<x.r.length) hz h0=>Gm.highN_not (H:=H) h hz h0)
 have HYE:Hid (Gm.knH H x.r→Gm.highN H x.r=Gm.topH H x.r+1):=aA (fun h=>Gm.highN_of h)
 have HTB:Hid (∀l,Gm.topH H l≤1000000):=aA (fun l=>Gm.topH_le.2 (fun z _ _=>hb _))
 have hlen:(x.r.length:Int)≤9223372036854775807:=by omega
 obtain⟨r,hr0⟩:∃r,r=x.r:=⟨_,rfl⟩
 rw[←hr0]at HR HIN HS HTK HKN HNO HYE hlen q1 ⊢
 rw[←hr0]at hw1
 clear hr h2 hB hB2 hin hs hb hl hbx hb1 hr0
 go_enter Tryz.func23,Tryz.ntmps23
 go_upto_region 1 with fail
 rw[←hw1]
 clear hw1
 go_wp2
 go_loop [6,5] (fun vi vt=>∃(k t:Nat),k≤r.length∧vi=.int .i64 k∧vt=.int .i64 (t:Int)∧Hid (t=Gm.topH H (r.take k))∧Hid (Gm.knH H (r.take k))) (fun vi _=>r.length-(intOf vi).toNat)
 case atStart=>exact⟨0,0,Nat.zero_le _,rfl,rfl,aA (by simp[Gm.topH]),aA (by intro z hz;simp at hz)⟩
 case round =>
  obtain⟨k,t,hk,rfl,rfl,HT,HK⟩:=hrel
  by_cases hlt:k<r.length
  ·obtain⟨g,o,rfl,hgb,hc⟩:=HR.out (by omega)
   have k0:=hc k hlt
   rw[L.gd_lt hlt]at k0
   have hzi:=HIN.out _ (List.getElem_mem hlt)
   have hzs:=HS.out _ (List.getElem_mem hlt)
   have HTz:=aA (HTK.out k hlt)
   have HKz:=aA (HKN.out k hlt HK.out)
   have HNz:=aA (HNO.out k hlt)
   clear hc
   unfold Gm.In at hzi
   generalize r[k]=z at *
   by_cases h0:0≤z
   ·have d0:decide (0≤z)=true:=decide_eq_true h0
    have HT2:Hid (t=Gm.topH H (r.take (k+1))):=aA (by rw[HTz.out,if_pos h0];exact HT.out)
    have HK2:=aA (HKz.out (fun h=>by omega))
    clear hzi hzs h0 HTz HKz HNz
    go_wp2
    go_round
    case rel=>exact⟨k+1,t,hlt,by go_num,rfl,HT2,HK2⟩
    case measure=>simp[intOf];omega
   ·have hz1:=hzs (by omega)
    obtain⟨m,he⟩:∃m:Nat,-1-z=(m:Int):=⟨(-1-z).toNat,by omega⟩
    rw[he]at hz1
    have hm2:m<H.length:=by omega
    obtain⟨g2,o2,rfl,_,hc2⟩:=H2.out (by rw[zaJ];omega)
    have k2:=hc2 m (by rw[zaJ];exact hm2)
    rw[zdQ]at k2
    have hbm:=HBD.out m
    have d0:decide (0≤z)=false:=decide_eq_false h0
    have d2:IntKind.i64.wrap (-1-z)=(m:Int):=by rw[IntWalk.i64_in _ (by omega)];exact he
    rw[if_neg h0,he,Int.toNat_natCast]at HTz
    have HKz:=aA (fun(h:0<H.getD m 0)=>HKz.out (fun _=>by rw[he,Int.toNat_natCast];exact h))
    have HNz:=aA (fun(h:H.getD m 0=0)=>HNz.out (by omega) (by rw[he,Int.toNat_natCast];exact h))
    generalize H.getD m 0=hv at *
    have hm3:(m:Int)<(H.length:Int):=hz1
    clear hzi hzs h0 hc2 he hz1
    by_cases hv0:hv=0
    ·have HX:=aA (HNz.out hv0)
     subst hv0
     have e0:(((0:Nat):Int)==0)=true:=rfl
     go_wp2
     go_ret
     exact⟨by rw[HX.out];rfl,HB1.out⟩
    ·have HK2:=aA (HKz.out (by omega))
     have e0:((hv:Int)==0)=false:=beq_eq_false_iff_ne.2 (by omega)
     have hmx:max (t:Int) (hv:Int)=((max t hv:Nat):Int):=by omega
     have HT2:Hid (max t hv=Gm.topH H (r.take (k+1))):=aA (by rw[HTz.out,←HT.out])
     generalize max t hv=t2 at *
     clear hbm HTz HNz HKz hv0
     go_wp2
     go_round
     case rel=>exact⟨k+1,t2,hlt,by go_num,rfl,HT2,HK2⟩
     case measure=>simp[intOf];omega
  ·obtain rfl:k=r.length:=by omega
   rw[List.take_length]at HT HK
   have htb:t≤1000000:=by rw[HT.out];exact HTB.out r
   have hw2:IntKind.i64.wrap ((t:Int)+1)=((t+1:Nat):Int):=by rw[IntWalk.i64_in _ (by omega)];omega
   have HX:=aA ((HYE.out HK.out).trans (by rw[←HT.out]))
   clear htb
   go_wp2
   go_ret
   exact⟨by rw[HX.out];rfl,HB1.out⟩
theorem Gm.hi1_le {old:List Nat} {h m:Nat} {out:List Nat} {x:Gm.Rl} (h1:∀j,out.getD j 0≤m) (h2:h≤m) (j:Nat):(Gm.hi1 old h out x).getD j 0≤m:=by
 unfold Gm.hi1
 split
 ·rw[List.getD_eq_getElem?_getD,List.getElem?_set]
  split
  ·split
   ·exact h2
   ·simp
  ·have:=h1 j
   rwa [List.getD_eq_getElem?_getD]at this
 ·exact h1 j
theorem Gm.fold_hi_le {old:List Nat} {h m:Nat} (h2:h≤m):∀(xs:List Gm.Rl) (out:List Nat),(∀j,out.getD j 0≤m)→∀j,(xs.foldl (Gm.hi1 old h) out).getD j 0≤m
 | [],_,h1=>h1
 | _::xs,_,h1=>Gm.fold_hi_le h2 xs _ (Gm.hi1_le h1 h2)
theorem Gm.hiN_le (rs:List Gm.Rl) (n:Nat):∀(k:Nat),∀j,(Gm.hiN rs k (List.replicate n 0)).getD j 0≤k
 | 0=>fun j=>by
  rw[Gm.hiN,List.getD_eq_getElem?_getD,List.getElem?_replicate]
  split <;> simp
 | k+1=>by
  rw[Gm.hiN]
  exact Gm.fold_hi_le (Nat.le_refl _) rs _ (fun j=>Nat.le_succ_of_le (Gm.hiN_le rs n k j))
theorem Gm.hi_take {rs:List Gm.Rl} {old s:List Nat} {h i:Nat} (hi:i<rs.length):(rs.take (i+1)).foldl (Gm.hi1 old h) s=Gm.hi1 old h ((rs.take i).foldl (Gm.hi1 old h) s) rs[i]:=by
 rw[List.take_succ_eq_append_getElem hi,List.foldl_append];rfl
theorem Gm.hi_len {old s:List Nat} {h:Nat} (xs:List Gm.Rl):(xs.foldl (Gm.hi1 old h) s).length=s.length:=Gm.fold_len (Gm.hi1_len old h) xs s
theorem zaP (v:Value) (G:Gm.Gr) (B:Nat) (w:World) (hg:aN w B v G) (hf:Gm.Fit G) (hB:B≤w.heap.size) :
  Calls Tryz.prog 11 #[v] w (zfD (Gm.right G) (Gm.htI G) w):=by
 have H1:=aA (fun(x:World) (h:Below w.heap.size w x)=>zaC v G B x (hg.below h hB) hf (Nat.le_trans hB h.size))
 obtain⟨AT,cT,AN,cN,AR,cR,rfl,_,⟨hlN,hmN⟩,⟨hlR,hmR⟩,_,_,hR⟩:=hg
 have HS0:=aA (One.start w #[.slice AT G.ts.length cT,.slice AN G.ns.length cN,.slice AR G.rs.length cR,.int .i64 G.st])
 have HRl:=aA hR
 have HB:=aA hB
 have HFT:=aA hf
 clear hf hR hB
 cases q:Gm.right G
 ·rw[q]at H1
  clear q
  go_enter Tryz.func11,Tryz.ntmps11
  go_wp2_with fail
  refine(H1.out _ HS0.out.below).mono ?_;rintro _ w2 ⟨rfl,hb⟩
  have HB2:=aA (HS0.out.on hb)
  clear hb
  go_wp2
  go_ret
  exact⟨fun h=>by simp at h,fun _=>⟨rfl,HB2.out.below⟩⟩
 ·have HOK:=aA (Gm.right_ok.1 q)
  have HN:Hid (1≤G.ns.length∧G.ns.length≤16):=aA (by have:=(Gm.nons_iff G).1 HOK.out.n;exact⟨this.1,this.2.1⟩)
  have HR40:Hid (G.rs.length≤40):=aA HOK.out.r40
  rw[q]at H1
  clear q
  have hnn:=HN.out
  have hlen:(G.ns.length:Int)≤9223372036854775807:=by omega
  have hlen2:(G.rs.length:Int)≤9223372036854775807:=by omega
  go_enter Tryz.func11,Tryz.ntmps11
  go_wp2_with fail
  refine(H1.out _ HS0.out.below).mono ?_;rintro _ w3 ⟨rfl,hb⟩
  have HB3:=aA (HS0.out.on hb)
  have q1:=HB3.out.c 1 _ rfl
  have hd3:w.heap.size<w3.heap.size:=HB3.out.size
  clear hb H1 HS0
  go_upto_region 4 with(at_make;refine zfe rfl (.tmp 13) (.tmp 13) _ rfl Tryz.underlying30 G.ns.length _ _ rfl rfl rfl rfl (by omega) ?_;intro w4 hu4 hb4 hlt4)
  have HB4:=aA (HB3.out.on hb4)
  have HU4:Hid (UBI w4 w3.heap.size (oiN (Gm.hiN G.rs 0 (List.replicate G.ns.length 0)))):=aA (by rw[Gm.hiN,zgS];exact hu4)
  have HGK:Hid (w.heap.size+1≤w3.heap.size):=aA HB3.out.size
  clear hu4 hb4 hlt4 q1 hd3 hnn
  obtain⟨gg,hgg⟩:∃g,g=w3.heap.size:=⟨_,rfl⟩
  rw[←hgg]at HU4 HGK ⊢
  clear hgg
  go_wp2
  go_loopw [4] (fun vn wr=>∃n:Nat,n≤G.ns.length∧vn=.int .i64 ((n:Int)+1)∧Hid (UBI wr gg (oiN (Gm.hiN G.rs n (List.replicate G.ns.length 0))))∧Hid (One w #[.slice AT G.ts.length cT,.slice AN G.ns.length cN,.slice AR G.rs.length cR,.int .i64 G.st] wr)) (fun vn _=>G.ns.length+1-(intOf vn).toNat)
  case atStart=>exact⟨0,Nat.zero_le _,rfl,HU4,HB4⟩
  case round =>
   clear HU4 HB4
   obtain⟨n,hn,rfl,HU,HW⟩:=hrel
   obtain⟨wo,hwo⟩:∃wo:World,wo=wr:=⟨_,rfl⟩
   subst hwo
   have q1:=HW.out.c 1 _ rfl
   have ld:w.heap.size<wo.heap.size:=HW.out.size
   have HSL:Hid ((Gm.hiN G.rs n (List.replicate G.ns.length 0)).length=G.ns.length):=aA (by rw[Gm.hiN_len];simp)
   have HSB:=aA (Gm.hiN_le G.rs G.ns.length n)
   have HNX:Hid (Gm.hiN G.rs (n+1) (List.replicate G.ns.length 0)=G.rs.foldl (Gm.hi1 (Gm.hiN G.rs n (List.replicate G.ns.length 0)) (n+1)) (Gm.hiN G.rs n (List.replicate G.ns.length 0))):=aA rfl
   have HEND:Hid (n=G.ns.length→oiN (Gm.hiN G.rs n (List.replicate G.ns.length 0))=Gm.htI G):=aA (fun h=>by rw[h];rfl)
   obtain⟨s1,hs1⟩:∃x,x=Gm.hiN G.rs (n+1) (List.replicate G.ns.length 0):=⟨_,rfl⟩
   rw[←hs1]at HNX
   have HS1:=aA hs1
   clear hs1
   generalize Gm.hiN G.rs n (List.replicate G.ns.length 0)=s at *
   obtain⟨dn,hdn⟩:∃x:Int,x=(n:Int)+1:=⟨_,rfl⟩
   rw[←hdn]
   by_cases hlt:n<G.ns.length
   ·have d1:decide (dn≤(G.ns.length:Int))=true:=decide_eq_true (by omega)
    have hwd:IntKind.i64.wrap (dn+1)=dn+1:=IntWalk.i64_in _ (by have:=HN.out;omega)
    have HVN:Hid (Value.int .i64 (dn+1)=.int .i64 (((n+1:Nat):Int)+1)):=aA (by rw[hdn];simp)
    have hdn2:dn=((n+1:Nat):Int):=by omega
    have HDN:=aA hdn2
    have HRS:=aA (HU.out.rd0 HU.out.lt)
    have HRA:=aA (RdI.alloc HRS.out (Nat.le_refl _) (.cells #[] 3))
    have HLS:Hid ((oiN s).length=G.ns.length):=aA (by rw[zaJ];exact HSL.out)
    have HLC:Hid (([]:List Int).length+(oiN s).length≤1000000000000):=aA (by rw[HLS.out];have:=HN.out;simp;omega)
    have HSS:Hid (wo.heap.size≤(wo.alloc (.cells #[] 3)).heap.size):=aA (by simp)
    clear hdn hdn2
    go_upto_region 8 with(at_builtin;refine zgn rfl (.tmp 22) (.tmp 23) _ rfl Tryz.underlying30 wo.heap.size _ [] rfl (zch wo) _ G.ns.length G.ns.length (some ⟨gg,0,none⟩) (oiN s) rfl HLS.out.symm HRA.out HLC.out HSS.out ?_;intro v' w5 ho hgr)
    rw[List.nil_append]at ho
    obtain⟨go,co,rfl,_,_,hgo⟩:=ho.addr (by rw[HLS.out];have:=HN.out;omega)
    rw[HLS.out]at ho ⊢
    have hB5:=zaS ((Below.refl wo.heap.size wo).alloc (Nat.le_refl _) (.cells #[] 3)) (zch wo) hgr HSS.out
    have HO5:=aA ho
    have HGO:=aA hgo
    have HU5:=aA (HU.out.below hB5 HU.out.lt)
    have HW5:=aA (HW.out.on hB5)
    have HGL:=aA HU.out.lt
    have HRH:=aA (fun(x:Gm.Rl) (hx:x∈G.rs) (A':Option Addr) (c':Nat) (y:World) (hr:RdI y B A' x.r) (ho:RdI y y.heap.size (some ⟨go,0,none⟩) (oiN s)) (hBy:B≤y.heap.size)=>zcU x s A' (some ⟨go,0,none⟩) c' co B y.heap.size y hr ho hBy (Nat.le_refl _) (HFT.out.r x hx).2.2 (fun z hz h=>by rw[HSL.out];exact HOK.out.sin x hx z hz h) (fun j=>Nat.le_trans (HSB.out j) (by have:=HN.out;omega)) (by have:=(Gm.rule_in (HOK.out.rr x hx)).1;omega))
    rw[HSL.out]at HRH
    have HST:=aA (fun i (hi:i<G.rs.length)=>Gm.hi_take (old:=s) (s:=s) (h:=n+1) hi)
    have HIL:Hid (∀i,((G.rs.take i).foldl (Gm.hi1 s (n+1)) s).length=G.ns.length):=aA (fun i=>by rw[Gm.hi_len,HSL.out])
    clear ho hgr hgo hB5 HRS HRA HLC HSS HU HW q1 ld HSB
    go_wp2
    go_loopw [6] (fun vi wr=>∃i:Nat,i≤G.rs.length∧vi=.int .i64 i∧Hid (UBI wr gg (oiN ((G.rs.take i).foldl (Gm.hi1 s (n+1)) s)))∧Hid (aJ wr wo.heap.size (.slice (some ⟨go,0,none⟩) G.ns.length co) (oiN s))∧Hid (One w #[.slice AT G.ts.length cT,.slice AN G.ns.length cN,.slice AR G.rs.length cR,.int .i64 G.st] wr)) (fun vi _=>G.rs.length-(intOf vi).toNat)
    case atStart=>exact⟨0,Nat.zero_le _,rfl,HU5,HO5,HW5⟩
    case round =>
     clear HU5 HO5 HW5
     obtain⟨i,hi,rfl,HU,HO,HW⟩:=hrel
     have q2:=HW.out.c 2 _ rfl
     have ld:w.heap.size<wr.heap.size:=HW.out.size
     by_cases hlt2:i<G.rs.length
     ·obtain⟨g,o,rfl,hgB,hc⟩:=HRl.out (by omega)
      obtain⟨k0,⟨A',c',k1,u1,u2,hri⟩,k2⟩:=hc i hlt2
      have k0:=(HW.out.below.cell (p:=⟨g,o+i*3,none⟩) (Nat.lt_of_lt_of_le hgB HB.out)).trans k0
      have k1:=(HW.out.below.cell (p:=⟨g,o+i*3+1,none⟩) (Nat.lt_of_lt_of_le hgB HB.out)).trans k1
      have k2:=(HW.out.below.cell (p:=⟨g,o+i*3+2,none⟩) (Nat.lt_of_lt_of_le hgB HB.out)).trans k2
      have hm:=List.getElem_mem hlt2
      have hli:=HOK.out.lin _ hm
      have HRHz:=aA (fun(y:World) (hr:RdI y B A' G.rs[i].r) (ho:RdI y y.heap.size (some ⟨go,0,none⟩) (oiN s)) (hb:B≤y.heap.size)=>HRH.out G.rs[i] hm A' c' y hr ho hb)
      have HSTz:=aA (HST.out i hlt2)
      have HRI:=aA hri
      have HILi:=aA (HIL.out i)
      generalize G.rs[i]=x at *
      obtain⟨xl,xr,xp⟩:=x
      simp only at k0 k1 k2 hli HRHz HSTz
      obtain⟨j,rfl⟩:∃j:Nat,xl=(j:Int):=⟨xl.toNat,by omega⟩
      have hj:j<G.ns.length:=by omega
      have hj3:(j:Int)<(G.ns.length:Int):=by omega
      have HH1:Hid (∀t:List Nat,Gm.hi1 s (n+1) t ⟨(j:Int),xr,xp⟩=if t.getD j 0=0∧Gm.highN s xr=n+1 then t.set j (n+1) else t):=aA (fun t=>by unfold Gm.hi1;simp only[Int.toNat_natCast])
      rw[HH1.out]at HSTz
      obtain⟨t1,ht1⟩:∃x,x=(G.rs.take (i+1)).foldl (Gm.hi1 s (n+1)) s:=⟨_,rfl⟩
      rw[←ht1]at HSTz
      have HT1E:=aA ht1
      clear ht1
      generalize (G.rs.take i).foldl (Gm.hi1 s (n+1)) s=t at *
      obtain⟨wb,hwb⟩:∃y,y=wr.alloc (.cells #[.int .i64 (j:Int),.slice A' xr.length c',.int .i64 xp] 41):=⟨_,rfl⟩
      have hbb:Below wr.heap.size wr wb:=by rw[hwb];exact(Below.refl _ _).alloc (Nat.le_refl _) _
      have hbr:wb.heap[wr.heap.size]?=some (.cells #[.int .i64 (j:Int),.slice A' xr.length c',.int .i64 xp] 41 (0,0)):=by rw[hwb];exact heap_alloc_new wr _
      have b0:=cell_of_row wb _ 0 _ _ _ hbr
      have b1:=cell_of_row wb _ 1 _ _ _ hbr
      have b2:=cell_of_row wb _ 2 _ _ _ hbr
      have lb:=(Array.getElem?_eq_some_iff.1 hbr).1
      have HUB:=aA (HU.out.below hbb HU.out.lt)
      have HOB:=aA (HO.out.below hbb (Nat.le_refl _))
      have HWB:=aA (HW.out.on hbb)
      have kt:=HUB.out.cell j (by rw[zaJ,HILi.out];exact hj)
      rw[zdQ]at kt
      have lu:=HUB.out.lt
      have HBR:=aA hbr
      clear hc u1 u2 hri hm hli hbb hbr HU HO HW
      by_cases ht0:t.getD j 0=0
      ·rw[ht0]at kt
       have hr4:=(HRI.out.keep (w':=wb) (fun g o hg=>(HWB.out.below.cell (p:=⟨g,o,none⟩) (Nat.lt_of_lt_of_le hg HB.out))))
       have hor:RdI wb wb.heap.size (some ⟨go,0,none⟩) (oiN s):=by
        obtain⟨A9,c9,e9,_,_,h9⟩:=HOB.out.form
        injection e9 with e9
        rw[e9];exact h9
       have HRHb:=aA (HRHz.out wb hr4 hor (Nat.le_trans HB.out HWB.out.below.size))
       clear hr4 hor HRHz HRI
       by_cases hh:Gm.highN s xr=n+1
       ·have hcmp:(((Gm.highN s xr:Nat):Int)==dn)=true:=by rw[hh,HDN.out];simp
        have HT1:=aA (HSTz.out.trans (if_pos ⟨ht0,hh⟩))
        generalize Gm.highN s xr=hn at *
        clear HSTz hh ht0
        go_upto_region 12 with fail
        rw[←hwb]
        clear hwb k0 k1 k2 q2 ld
        go_upto_region 13 with fail
        refine HRHb.out.mono ?_;rintro _ we ⟨rfl,hb⟩
        have HUE:=aA (HUB.out.below hb HUB.out.lt)
        have HOE:=aA (HOB.out.below hb (Nat.le_refl _))
        have HWE:=aA (HWB.out.on hb)
        have hbe:=(hb.block _ lb).trans HBR.out
        have b0':=cell_of_row we _ 0 _ _ _ hbe
        have lb':=(Array.getElem?_eq_some_iff.1 hbe).1
        have kte:=HUE.out.cell j (by rw[zaJ,HILi.out];exact hj)
        have fte:=HUE.out.frozen j
        have lue:=HUE.out.lt
        have HUS:Hid (UBI (we.setCell ⟨gg,j,none⟩ (.int .i64 dn)) gg (oiN t1)):=aA (by rw[HT1.out,←zgR,←HDN.out];exact HUE.out.set_ j dn)
        have hset:we.grownBy (we.setCell ⟨gg,j,none⟩ (.int .i64 dn)) (some gg):=aE (World.grownBy.refl we (some gg)) j _
        have HOS:=aA (World.ownsRow.kept HOE.out hset (.inr (fun e=>by have e2:go=gg:=Option.some.inj e;have:=HGO.out;have:=HGL.out;omega)))
        have HWS:=aA (Below.setCell HWE.out (p:=⟨gg,j,none⟩) (show w.heap.size+1≤gg from HGK.out) (.int .i64 dn))
        clear hb hbe hset b0 b1 b2 lb kt lu HUE HOE HWE HUB HOB HWB HBR
        go_wp2
        go_roundw
        case rel=>exact⟨i+1,hlt2,by go_num,by rw[←HT1E.out];exact HUS,HOS,HWS⟩
        case measure=>simp[intOf];omega
       ·have hcmp:(((Gm.highN s xr:Nat):Int)==dn)=false:=beq_eq_false_iff_ne.2 (by rw[HDN.out];omega)
        have HT1:=aA (HSTz.out.trans (if_neg (fun h=>hh h.2)))
        generalize Gm.highN s xr=hn at *
        clear HSTz hh ht0
        go_upto_region 12 with fail
        rw[←hwb]
        clear hwb k0 k1 k2 q2 ld
        go_upto_region 13 with fail
        refine HRHb.out.mono ?_;rintro _ we ⟨rfl,hb⟩
        have HUE:Hid (UBI we gg (oiN t1)):=aA (by rw[HT1.out];exact HUB.out.below hb HUB.out.lt)
        have HOE:=aA (HOB.out.below hb (Nat.le_refl _))
        have HWE:=aA (HWB.out.on hb)
        clear hb b0 b1 b2 lb kt lu HUB HOB HWB HBR
        go_wp2
        go_roundw
        case rel=>exact⟨i+1,hlt2,by go_num,by rw[←HT1E.out];exact HUE,HOE,HWE⟩
        case measure=>simp[intOf];omega
      ·have HT1:=aA (HSTz.out.trans (if_neg (fun h=>ht0 h.1)))
       have hz0:(((t.getD j 0:Nat):Int)==0)=false:=beq_eq_false_iff_ne.2 (by omega)
       have HUE:Hid (UBI wb gg (oiN t1)):=aA (by rw[HT1.out];exact HUB.out)
       generalize t.getD j 0=tj at *
       clear HSTz ht0 HRHz HRI HUB
       go_upto_region 12 with fail
       rw[←hwb]
       clear hwb k0 k1 k2 q2 ld
       go_wp2
       go_roundw
       case rel=>exact⟨i+1,hlt2,by go_num,by rw[←HT1E.out];exact HUE,HOB,HWB⟩
       case measure=>simp[intOf];omega
     ·obtain rfl:i=G.rs.length:=by omega
      rw[List.take_length,←HNX.out]at HU
      go_wp2
      go_roundw
      case rel=>exact⟨n+1,hlt,HVN.out,by rw[←HS1.out];exact HU,HW⟩
      case measure=>simp[intOf];have:=HDN.out;omega
   ·have d1:decide (dn≤(G.ns.length:Int))=false:=decide_eq_false (by omega)
    have HX:=aA (HEND.out (by omega))
    clear hdn
    go_wp2
    go_ret
    exact⟨fun _=>⟨gg,by rw[Gm.htI_len];rfl,by have:=HGK.out;omega,by rw[←HX.out];exact HU.out,HW.out.below⟩,fun h=>by simp at h⟩
end Go.Proofs.YtcgclkndkahgaaaGreat
namespace Go.Proofs.YtcgclkndkahgaaaGreat
set_option maxRecDepth 100000
set_option maxHeartbeats 40000000
open Go.ChangeShapes Go.WideShapes Go.Deep Go.RowKit Go.Joins
section
variable {H:Type} {enc:TypeId×Value→H} {P:Program} {w:World} {base:Nat} {spare:Nat→Bool} {held:Bool}
theorem zc1 {t e:TypeId} {fs:Array Field} {fuel:Nat} {cs:List Value} {x:DataW H×List MemPlace} (ht:P.underlying t=some (.slice e)) (he:P.underlying e=some (.struct fs))
  (hone:oneCellFields P fs=true) (hC:P.cellsOf e=fs.size) (h:DataW.trod enc P w base spare held fuel t cs=some x) :
  cs=[.slice none 0 0] ∨
  ∃(a:Addr) (len cap:Nat),cs=[.slice (some a) len cap]∧len≤cap∧cap≤maxLen ∧
   ∀i,i<len→∀(j:Nat) (f:Field),fs[j]?=some f→∃(v:Value) (y:DataW H×List MemPlace) (n:Nat),w.cell? (a.add (i*fs.size+j))=some v∧DataW.trod enc P w base spare held n f.type [v]=some y:=by
 rcases open_slice ht h with h0|⟨a,len,cap,m,n,D,Pl,hcs,hb,hl,hm,hmm,hx,hi⟩
 ·exact .inl h0.1
 ·refine .inr ⟨a,len,cap,hcs,hl,hm,fun i him j f hj=>?_⟩
  obtain⟨cs',hc,ht'⟩:=hi i (by rw[hmm];split <;> omega)
  rw[hC]at hc
  obtain⟨ys,n',hn',hy,hlen,hyl,hf⟩:=DataW.trod_struct he ht'
  obtain⟨_,hcl,hat⟩:=World.cells?_some hc
  obtain⟨ho,hk⟩:=hone_of hone j f hj
  have hjl:j<fs.size:=(Array.getElem?_eq_some_iff.1 hj).1
  have hcell:=hat j hjl
  have hv:cs'[j]?=some (cs'[j]'(by omega)):=List.getElem?_eq_getElem (by omega)
  have h1:=hf j f hj
  rw[ho,hk]at h1
  have hone':(cs'.drop j).take 1=[cs'[j]'(by omega)]:=by
   rw[List.drop_eq_getElem_cons (by omega)]
   rfl
  rw[hone']at h1
  have hys:ys[j]?=some (ys[j]'(by omega)):=List.getElem?_eq_getElem (by omega)
  refine⟨_,_,n',?_,h1.trans hys⟩
  rw[←Go.Deep.add_add,hcell,hv]
theorem za0 {a:Addr} {k:Nat} {v:Value} (h:w.cell? (a.add k)=some v) (hk:k=0):a=⟨a.block,a.off,none⟩:=by
 subst hk
 obtain⟨b,o,s⟩:=a
 obtain rfl:s=none:=by simpa[Addr.add] using World.cell?_spot h
 rfl
theorem zf3 {t e:TypeId} {f0 f1 f2:Field} {fuel:Nat} {cs:List Value} {x:DataW H×List MemPlace} (ht:P.underlying t=some (.slice e)) (he:P.underlying e=some (.struct #[f0,f1,f2]))
  (hone:oneCellFields P #[f0,f1,f2]=true) (hC:P.cellsOf e=3) (h0:P.underlying f0.type=some .string) (h1:P.underlying f1.type=some (.int .i64)) (h2:P.underlying f2.type=some (.int .i64)) (h:DataW.trod enc P w base spare held fuel t cs=some x) :
  ∃A n c ts,cs=[.slice A n c]∧n=ts.length∧n≤c∧c≤9223372036854775807∧zfG w w.heap.size A ts∧∀x∈ts,K.Tx x.nm∧Gm.In x.lv∧Gm.In x.wy:=by
 rcases zc1 ht he hone hC h with rfl|⟨a,len,cap,rfl,hl,hm,hi⟩
 ·exact⟨none,0,0,[],rfl,rfl,Nat.le_refl _,by omega,fun h=>absurd rfl h,fun x hx=>by simp at hx⟩
 ·have hp:∀i,i<len→∃t:Gm.Tm,(w.cell? (a.add (i*3))=some (.string (K.str t.nm))∧w.cell? (a.add (i*3+1))=some (.int .i64 t.lv)∧w.cell? (a.add (i*3+2))=some (.int .i64 t.wy))∧K.Tx t.nm∧Gm.In t.lv∧Gm.In t.wy:=fun i hil=>by
   obtain⟨v0,y0,n0,c0,t0⟩:=hi i hil 0 f0 rfl
   obtain⟨v1,y1,n1,c1,t1⟩:=hi i hil 1 f1 rfl
   obtain⟨v2,y2,n2,c2,t2⟩:=hi i hil 2 f2 rfl
   obtain⟨s,e0,_,hs0⟩:=DataW.trod_string h0 t0
   obtain⟨z1,e1,_,w1⟩:=DataW.trod_int h1 t1
   obtain⟨z2,e2,_,w2⟩:=DataW.trod_int h2 t2
   injection e0 with e0;injection e1 with e1;injection e2 with e2
   subst e0 e1 e2
   obtain⟨l,hl,rfl⟩:=K.txt s hs0
   exact⟨⟨l,z1,z2⟩,⟨c0,c1,c2⟩,hl,bounds_i64 w1,bounds_i64 w2⟩
  obtain⟨ts,htl,hts⟩:=zdu len _ hp
  refine⟨some a,len,cap,ts,rfl,htl.symm,hl,by unfold maxLen at hm;omega,fun hn=>?_,fun x hx=>?_⟩
  ·have ha:=za0 (hts 0 (by omega)).1.1 (Nat.zero_mul 3)
   refine⟨a.block,a.off,congrArg some ha,?_,fun i hi=>?_⟩
   ·have:=block_lt_of_cell (hts 0 (by omega)).1.1
    simpa[Addr.add] using this
   ·have:=(hts i hi).1
    rw[ha,add_plain,add_plain,add_plain]at this
    exact this
  ·obtain⟨i,hi,rfl⟩:=List.getElem_of_mem hx
   exact(hts i hi).2
theorem zf4 {t e u:TypeId} {f0 f1 f2:Field} {fuel:Nat} {cs:List Value} {x:DataW H×List MemPlace} (ht:P.underlying t=some (.slice e)) (he:P.underlying e=some (.struct #[f0,f1,f2]))
  (hone:oneCellFields P #[f0,f1,f2]=true) (hC:P.cellsOf e=3) (h0:P.underlying f0.type=some (.int .i64)) (h1:P.underlying f1.type=some (.slice u)) (hu:P.underlying u=some (.int .i64)) (hcu:P.cellsOf u=1) (h2:P.underlying f2.type=some (.int .i64)) (h:DataW.trod enc P w base spare held fuel t cs=some x) :
  ∃A n c rs,cs=[.slice A n c]∧n=rs.length∧n≤c∧c≤9223372036854775807∧zdf w w.heap.size A rs∧∀x∈rs,Gm.In x.l∧Gm.In x.p∧∀z∈x.r,Gm.In z:=by
 rcases zc1 ht he hone hC h with rfl|⟨a,len,cap,rfl,hl,hm,hi⟩
 ·exact⟨none,0,0,[],rfl,rfl,Nat.le_refl _,by omega,fun h=>absurd rfl h,fun x hx=>by simp at hx⟩
 ·have hp:∀i,i<len→∃t:Gm.Rl,(w.cell? (a.add (i*3))=some (.int .i64 t.l)∧(∃A' c',w.cell? (a.add (i*3+1))=some (.slice A' t.r.length c')∧t.r.length≤c'∧c'≤9223372036854775807∧RdI w w.heap.size A' t.r)∧w.cell? (a.add (i*3+2))=some (.int .i64 t.p))∧Gm.In t.l∧Gm.In t.p∧∀z∈t.r,Gm.In z:=fun i hil=>by
   obtain⟨v0,y0,n0,c0,t0⟩:=hi i hil 0 f0 rfl
   obtain⟨v1,y1,n1,c1,t1⟩:=hi i hil 1 f1 rfl
   obtain⟨v2,y2,n2,c2,t2⟩:=hi i hil 2 f2 rfl
   obtain⟨z0,e0,_,w0⟩:=DataW.trod_int h0 t0
   obtain⟨z2,e2,_,w2⟩:=DataW.trod_int h2 t2
   injection e0 with e0;injection e2 with e2
   subst e0 e2
   rcases open_ints h1 hu hcu t1 with⟨hcs,_⟩|⟨x,l,c,zs,hcs,_,hl,hm,hz,hx,hcell,hwz⟩
   ·injection hcs with hcs
    subst hcs
    exact⟨⟨z0,[],z2⟩,⟨c0,⟨none,0,c1,Nat.le_refl _,by omega,RdI.nil _ _ _⟩,c2⟩,bounds_i64 w0,bounds_i64 w2,fun z hz=>by simp at hz⟩
   ·injection hcs with hcs
    subst hcs
    have hzl:l≤zs.length:=by rw[hz];split <;> omega
    refine⟨⟨z0,zs.take l,z2⟩,⟨c0,⟨some x,c,?_,?_,by unfold maxLen at hm;omega,fun hn=>?_⟩,c2⟩,bounds_i64 w0,bounds_i64 w2,fun z hz=>bounds_i64 (hwz z (List.mem_of_mem_take hz))⟩
    ·have hln:(zs.take l).length=l:=by rw[List.length_take];omega
     show w.cell? (a.add (i*3+1))=some (.slice (some x) (zs.take l).length c)
     rw[hln];exact c1
    ·show(zs.take l).length≤c
     rw[List.length_take];omega
    ·have hl0:0<zs.length:=by simp at hn;omega
     have ha:=za0 (hcell 0 hl0) rfl
     refine⟨x.block,x.off,congrArg some ha,?_,fun j hj=>?_⟩
     ·have:=block_lt_of_cell (hcell 0 hl0)
      simpa[Addr.add] using this
     ·have hj':j<l:=by simp at hj;omega
      have h1:=hcell j (by omega)
      rw[ha,add_plain]at h1
      rw[h1]
      simp only[List.getD,List.getElem?_take]
      rw[if_pos hj']
  obtain⟨ts,htl,hts⟩:=zdu len _ hp
  refine⟨some a,len,cap,ts,rfl,htl.symm,hl,by unfold maxLen at hm;omega,fun hn=>?_,fun x hx=>?_⟩
  ·have ha:=za0 (hts 0 (by omega)).1.1 (Nat.zero_mul 3)
   refine⟨a.block,a.off,congrArg some ha,?_,fun i hi=>?_⟩
   ·have:=block_lt_of_cell (hts 0 (by omega)).1.1
    simpa[Addr.add] using this
   ·have:=(hts i hi).1
    rw[ha,add_plain,add_plain,add_plain]at this
    exact this
  ·obtain⟨i,hi,rfl⟩:=List.getElem_of_mem hx
   exact(hts i hi).2
theorem zf2 {t e:TypeId} {fuel:Nat} {cs:List Value} {x:DataW H×List MemPlace} (ht:P.underlying t=some (.slice e)) (he:P.underlying e=some .string) (hC:P.cellsOf e=1) (h:DataW.trod enc P w base spare held fuel t cs=some x) :
  ∃A n c ns,cs=[.slice A n c]∧n=ns.length∧n≤c∧c≤9223372036854775807∧RdN w w.heap.size A ns∧∀x∈ns,K.Tx x:=by
 rcases open_strings ht he hC h with⟨hcs,_⟩|⟨x,l,c,ss,hcs,_,hl,hm,hz,_,hcell,hsz⟩
 ·exact⟨none,0,0,[],hcs,rfl,Nat.le_refl _,by omega,fun h=>absurd rfl h,fun x hx=>by simp at hx⟩
 ·have hzl:l≤ss.length:=by rw[hz];split <;> omega
  have hp:∀i,i<l→∃t:List Int,w.cell? (x.add i)=some (.string (K.str t))∧K.Tx t:=fun i hi=>by
   obtain⟨t,ht,he⟩:=K.txt (ss.getD i ByteArray.empty) (hsz _ (by rw[List.getD_eq_getElem?_getD,List.getElem?_eq_getElem (by omega)];exact List.getElem_mem _))
   exact⟨t,by rw[hcell i (by omega),he],ht⟩
  obtain⟨ns,hnl,hns⟩:=zdu l _ hp
  refine⟨some x,l,c,ns,hcs,hnl.symm,hl,by unfold maxLen at hm;omega,fun hn=>?_,fun y hy=>?_⟩
  ·have ha:=za0 (hns 0 (by omega)).1 rfl
   refine⟨x.block,x.off,congrArg some ha,?_,fun j hj=>?_⟩
   ·have:=block_lt_of_cell (hns 0 (by omega)).1
    simpa[Addr.add] using this
   ·have h1:=(hns j hj).1
    rw[ha,add_plain]at h1
    exact h1
  ·obtain⟨i,hi,rfl⟩:=List.getElem_of_mem hy
   exact(hns i hi).2
theorem zbd {r:Reach} {b0:Nat} {t e1 e2 e3 u:TypeId} {f0 f1 f2 f3 x0 x1 x2 y0 y1 y2:Field} {v:Value} {d:DataW H} {p:List MemPlace} (hs:P.underlying t=some (.struct #[f0,f1,f2,f3])) (hone:oneCellFields P #[f0,f1,f2,f3]=true) (hC:P.cellsOf t=4)
  (hf0:P.underlying f0.type=some (.slice e1)) (he1:P.underlying e1=some (.struct #[x0,x1,x2])) (ho1:oneCellFields P #[x0,x1,x2]=true) (hc1:P.cellsOf e1=3) (hx0:P.underlying x0.type=some .string) (hx1:P.underlying x1.type=some (.int .i64)) (hx2:P.underlying x2.type=some (.int .i64))
  (hf1:P.underlying f1.type=some (.slice e2)) (he2:P.underlying e2=some .string) (hc2:P.cellsOf e2=1)
  (hf2:P.underlying f2.type=some (.slice e3)) (he3:P.underlying e3=some (.struct #[y0,y1,y2])) (ho3:oneCellFields P #[y0,y1,y2]=true) (hc3:P.cellsOf e3=3) (hy0:P.underlying y0.type=some (.int .i64)) (hy1:P.underlying y1.type=some (.slice u)) (hu:P.underlying u=some (.int .i64)) (hcu:P.cellsOf u=1) (hy2:P.underlying y2.type=some (.int .i64))
  (hf3:P.underlying f3.type=some (.int .i64))
  (hv:Value.okWide P w r b0 t v) (h:DataW.Trod enc P w base spare held t v d p) :
  ∃G,aN w w.heap.size v G∧Gm.Fit G:=by
 obtain⟨v0,v1,v2,v3,y0',y1',y2',y3',n,rfl,_,_,k0,k1,k2,k3⟩:=open_agg4 hs hone hC hv h
 obtain⟨AT,nT,cT,ts,e0,hn0,l0,m0,r0,w0⟩:=zf3 hf0 he1 ho1 hc1 hx0 hx1 hx2 k0
 obtain⟨AR,nR,cR,rs,e2',hn2,l2,m2,r2,w2⟩:=zf4 hf2 he3 ho3 hc3 hy0 hy1 hu hcu hy2 k2
 obtain⟨z,e3',_,w3⟩:=DataW.trod_int hf3 k3
 obtain⟨AN,nN,cN,ns,e1',hn1,l1,m1,r1,w1⟩:=zf2 hf1 he2 hc2 k1
 injection e0 with e0;injection e1' with e1';injection e2' with e2';injection e3' with e3'
 subst e0 e1' e2' e3' hn0 hn1 hn2
 exact⟨⟨ts,ns,rs,z⟩,⟨AT,cT,AN,cN,AR,cR,rfl,⟨l0,m0⟩,⟨l1,m1⟩,⟨l2,m2⟩,r0,r1,r2⟩,⟨w0,w1,w2,bounds_i64 w3⟩⟩
end
end Go.Proofs.YtcgclkndkahgaaaGreat
namespace Go.Proofs.YtcgclkndkahgaaaGreat.RowKit
open Go.ChangeShapes Go.WideShapes Go.ChangeAt Go.RowKit
theorem own:ownKnob Tryz.prog.godebug=none:=by kernel_rfl
theorem laidOut:laidOutB Tryz.prog=true:=by kernel_rfl
end Go.Proofs.YtcgclkndkahgaaaGreat.RowKit
