/- Part of the proofs over this program: ShowCat, ShowLines, ShowBuf, ShowJoin, CfgRules, CfgRight, CfgEq, ShowPrint, ShowSum, ShowDig, Alive10, Ints. -/
import Derived.Lib.AppendZerosOnto
import Derived.Lib.Builder
import Derived.Lib.AppendStr
import Derived.Lib.Join
import Derived.Laws.BitsAllLaws
import Derived.Laws.Shifts
import Derived.Lib.LaidTab
import Derived.Deep.RegionHeld3
import Derived.Test.YtkfelkpilaipnaaGreatDoorKM
namespace Go.Proofs.YtkfelkpilaipnaaGreatDoor
set_option maxRecDepth 100000
set_option maxHeartbeats 40000000
open Go.RowKit
theorem bH.parts {w:World} {base:Nat} {A:Option Addr} {n c:Nat} {ls:List (List (List Int))} (h:bH w base (.slice A n c) ls) :
  ∃qs:List LA,qs.map (·.1)=ls∧qs.length=n∧(qs≠[]→∃g,A=some ⟨g,0,none⟩∧∀j u,(bV qs)[j]?=some u→w.cell? ⟨g,j,none⟩=some u)∧∀q∈qs,q.1.length≤q.2.2∧q.2.2≤9223372036854775807∧bU w 0 w.heap.size q.2.1 q.1:=by
 obtain⟨qs,h1,h2,h3⟩:=h
 have hl:qs.length=ls.length:=by rw[←h1,List.length_map]
 rcases h2.2 with⟨e,h0⟩|⟨g,cap,cur,e,hb,hg,hn,hm,hs,ht⟩
 ·injection e with e1 e2 e3
  refine⟨qs,h1,by omega,fun hne=>?_,h3⟩
  exact absurd (List.eq_nil_of_length_eq_zero (by omega)) hne
 ·injection e with e1 e2 e3
  subst e1
  refine⟨qs,h1,by omega,fun _=>⟨g,rfl,fun j u hj=>?_⟩,h3⟩
  rw[cell_of_row w g j _ _ _ hg]
  rw[←ht]at hj
  have hjl:=(List.getElem?_eq_some_iff.1 hj).1
  rw[List.length_take]at hjl
  rw[List.getElem?_take_of_lt (by omega)]at hj
  simpa using hj
theorem zie (n:Nat) (hn:n≤1000000) (w:World) :
  Calls Tryz.prog 72 #[.slice none 0 0,.int .i64 n] w fun e w'=>∃v,e=.returned v∧bH w' w.heap.size v []∧Below w.heap.size w w':=by
 by_cases h0:n=0
 ·subst h0
  go_enter Tryz.func72,Tryz.ntmps72
  go_wp2
  go_ret
  exact⟨_,rfl,bH.nil _ _,Below.refl _ _⟩
 obtain⟨i,hi,hz0,hz1,hz2⟩:=info_parts zh9
 have hrz:∀ty,(Builtin.append_ #[48,3] ty #[.slice none 0 0,.int .i64 n]).run Tryz.prog w=.ok (.slice (some ⟨w.heap.size,0,none⟩) n (grownCap w n 0 23)) (w.drew.alloc (.cells ((#[]:Array Value)++Builtin.zeroCells #[.slice none 0 0] n++Builtin.zeroCells #[.slice none 0 0] (grownCap w n 0 23-n)) 23)):=fun ty=>by
  have h:=Lib.run_append_grow_zeros (P:=Tryz.prog) w 48 3 ty 23 i (.slice none 0 0) .i64 .i64 Tryz.underlying48 Tryz.underlying3 hi hz0 none 0 0 [] (run_firstCells_none (P:=Tryz.prog) (w:=w.drew) _ 0 0 0) n (by omega) (by omega) (by omega) (by omega) (by rw[hz2];omega)
   (by rw[hz2];exact growslice_fits (by omega) (by omega))
  rw[Nat.zero_add]at h
  exact h
 have hgc:n≤grownCap w n 0 23:=grownCap_ge w _ _ _
 have hgm:grownCap w n 0 23≤maxLen:=grownCap_le_maxLen w n 0 23 (by unfold maxLen;omega)
 generalize grownCap w n 0 23=G at *
 have hsz:((#[]:Array Value)++Builtin.zeroCells #[.slice none 0 0] n++Builtin.zeroCells #[.slice none 0 0] (G-n)).size=G:=by
  have e:∀k,(Builtin.zeroCells #[Value.slice none 0 0] k).size=k:=fun k=>by simp[Builtin.zeroCells]
  simp only[Array.size_append,e]
  simp
  omega
 generalize ((#[]:Array Value)++Builtin.zeroCells #[.slice none 0 0] n++Builtin.zeroCells #[.slice none 0 0] (G-n))=cs at *
 have hG63:G≤9223372036854775807:=by unfold maxLen at hgm;omega
 have h4:(n:Int) > 0:=by omega
 have HO:Hid (bH (w.drew.alloc (.cells cs 23)) w.heap.size (.slice (some ⟨w.heap.size,0,none⟩) 0 G) []):=aA ⟨[],rfl,⟨rfl,.inr ⟨w.heap.size,G,cs,rfl,Nat.le_refl _,heap_alloc_new w.drew _,Nat.zero_le _,hgm,by rw[hsz,Nat.mul_one],rfl⟩⟩,fun q h=>by cases h⟩
 have HB:Hid (Below w.heap.size w (w.drew.alloc (.cells cs 23))):=aA ((aB (Below.refl w.heap.size w) 1).alloc (Nat.le_refl _) _)
 clear hsz hz0 hz1 hz2 hi
 go_enter Tryz.func72,Tryz.ntmps72
 go_wp2_with (at_builtin;refine Lib.wpList_append_run _ rfl _ _ _ _ rfl _ _ rfl rfl _ _ (hrz _) ?_)
 go_ret
 exact⟨_,rfl,HO.out,HB.out⟩
def two (l1 l2:List (List (List Int))):Nat→List (List (List Int))
 | 0=>[]
 | 1=>l1
 | _=>l1++l2
theorem zgJ (g base n1 n2 c1 c2:Nat) (A1 A2:Option Addr) (l1 l2:List (List (List Int))) (w:World) (h0:w.cell? ⟨g,0,none⟩=some (.slice A1 n1 c1)) (h1:w.cell? ⟨g,1,none⟩=some (.slice A2 n2 c2)) (hg:g<w.heap.size)
  (ho1:bH w base (.slice A1 n1 c1) l1) (ho2:bH w base (.slice A2 n2 c2) l2) (hl:l1.length+l2.length≤100000) :
  Calls Tryz.prog 42 #[.slice (some ⟨g,0,none⟩) 2 2] w fun e w'=>∃v,e=.returned v∧bH w' w.heap.size v (l1++l2)∧Below w.heap.size w w':=by
 obtain⟨q1,hq1,hn1,_,_⟩:=ho1.parts
 obtain⟨q2,hq2,hn2,_,_⟩:=ho2.parts
 have hm1:n1=l1.length:=by rw[←hq1,List.length_map,hn1]
 have hm2:n2=l2.length:=by rw[←hq2,List.length_map,hn2]
 have HM:=aA (And.intro hm1 hm2)
 have HO1:=aA ho1
 have HO2:=aA ho2
 have HL:=aA hl
 have H0:=aA h0
 have H1:=aA h1
 have HGR:=aA (fun x=>zie (n1+n2) (by omega) x)
 have hln:n1+n2≤100000:=by omega
 clear ho1 ho2 hq1 hq2 hn1 hn2 hm1 hm2 hl h0 h1
 go_enter Tryz.func42,Tryz.ntmps42
 go_wp2
 go_loopw [3,11] (fun vs vi wr=>∃(k:Nat),k≤2∧vi=.int .i64 k∧vs=.int .i64 ((if 0<k then n1 else 0)+(if 1<k then n2 else 0):Nat)∧w=wr) (fun _ vi _=>2-(intOf vi).toNat)
 case atStart=>exact⟨0,by omega,rfl,rfl,rfl⟩
 case round =>
  obtain⟨k,hk,rfl,rfl,rfl⟩:=hrel
  have h0:=H0.out
  have h1:=H1.out
  rcases(by omega:k=0∨k=1∨k=2) with rfl|rfl|rfl
  ·rw[if_neg (by omega),if_neg (by omega)]
   have hnn:¬((n1:Int)<0):=by omega
   go_wp2
   go_roundw
   case rel=>exact⟨1,by omega,rfl,by rw[if_pos (by omega),if_neg (by omega)];simp,trivial⟩
   case measure=>simp[intOf]
  ·rw[if_pos (by omega),if_neg (by omega),Nat.add_zero]
   have hw:IntKind.i64.wrap ((n1:Int)+(n2:Int))=(n1:Int)+(n2:Int):=IntWalk.i64_in _ (by omega)
   have hnn:¬((n1:Int)+(n2:Int)<0):=by omega
   go_wp2
   go_roundw
   case rel=>exact⟨2,by omega,rfl,by rw[if_pos (by omega),if_pos (by omega)];simp,trivial⟩
   case measure=>simp[intOf]
  ·rw[if_pos (by omega),if_pos (by omega)]
   clear h0 h1
   go_wp2_with fail
   refine(HGR.out _).mono ?_;rintro _ w2 ⟨v2,rfl,ho2,hb2⟩
   have HV0:=aA ho2
   have HB0:=aA hb2
   clear ho2 hb2
   go_wp2
   go_loopw [6,27] (fun vs vi wt=>∃(k:Nat),k≤2∧vi=.int .i64 k∧bH wt w.heap.size vs (two l1 l2 k)∧Below w.heap.size w wt) (fun _ vi _=>2-(intOf vi).toNat)
   case atStart=>exact⟨0,by omega,rfl,HV0.out,HB0.out⟩
   case round =>
    obtain⟨k,hk,rfl,ho,hbt⟩:=hrel
    have HB:=aA hbt
    have HS:=aA hbt.size
    have HO:=aA ho
    obtain⟨A6,c6,rfl,_,_⟩:=ho.form
    have h0:=(hbt.cell (p:=⟨g,0,none⟩) hg).trans H0.out
    have h1:=(hbt.cell (p:=⟨g,1,none⟩) hg).trans H1.out
    have hgr:g<wr.heap.size:=by have:=hbt.size;omega
    rcases(by omega:k=0∨k=1∨k=2) with rfl|rfl|rfl
    ·obtain⟨q,e1,e2,e3,e4⟩:=(HO1.out.below hbt).parts
     have HE:=aA e1
     have HE3:=aA e3
     have HE4:=aA e4
     clear ho hbt e1 e3 e4
     go_wp2_with (at_builtin;refine zcH rfl (.tmp 31) (.tmp 32) _ rfl Tryz.underlying48 w.heap.size _ (two l1 l2 0) rfl HO.out A1 n1 c1 q rfl e2.symm HE3.out HE4.out (by have:=HM.out;have:=HL.out;simp[two];omega) (by have:=HS.out;omega) ?_;intro v4 w4 ho4 hg4)
     have HB4:=aA (HB.out.grown hg4 HS.out (fun _ h=>zdz HO.out h))
     have HO4:=aA ho4
     clear ho4 hg4
     go_roundw
     case rel=>exact⟨1,by omega,rfl,by have:=HO4.out;rw[HE.out]at this;exact this,HB4.out⟩
     case measure=>simp[intOf]
    ·obtain⟨q,e1,e2,e3,e4⟩:=(HO2.out.below hbt).parts
     have HE:=aA e1
     have HE3:=aA e3
     have HE4:=aA e4
     clear ho hbt e1 e3 e4
     go_wp2_with (at_builtin;refine zcH rfl (.tmp 31) (.tmp 32) _ rfl Tryz.underlying48 w.heap.size _ (two l1 l2 1) rfl HO.out A2 n2 c2 q rfl e2.symm HE3.out HE4.out (by have:=HM.out;have:=HL.out;simp[two];omega) (by have:=HS.out;omega) ?_;intro v4 w4 ho4 hg4)
     have HB4:=aA (HB.out.grown hg4 HS.out (fun _ h=>zdz HO.out h))
     have HO4:=aA ho4
     clear ho4 hg4
     go_roundw
     case rel=>exact⟨2,by omega,rfl,by have:=HO4.out;rw[HE.out]at this;exact this,HB4.out⟩
     case measure=>simp[intOf]
    ·clear ho hbt h0 h1
     have HF:Hid (bH wr w.heap.size (.slice A6 (l1++l2).length c6) (l1++l2)):=aA HO.out
     have hlen:(two l1 l2 2).length=(l1++l2).length:=rfl
     rw[hlen]
     go_wp2
     go_ret
     refine⟨_,rfl,?_,HB.out⟩
     simpa using HF.out
namespace Sh
open Gm
def headLines (G:Gr):List (List (List Int)):=tokens G.ts++levels G.ts++[[wStart,G.ns.getD G.st.toNat []],[wMark]]
def someLines (G:Gr) (k:Nat):List (List (List Int)):=headLines G++(G.rs.take k).map (rule G)
theorem someLines_next {G:Gr} {k:Nat} (h:k<G.rs.length):someLines G (k+1)=someLines G k++[rule G G.rs[k]]:=by
 unfold someLines
 rw[List.take_succ_eq_append_getElem h,List.map_append,List.append_assoc]
 rfl
theorem someLines_all (G:Gr):someLines G G.rs.length=lines G:=by
 unfold someLines headLines lines
 rw[List.take_length]
 simp
theorem levels_len (ts:List Tm):(levels ts).length=(top ts).toNat:=by unfold levels;simp
end Sh
theorem zgt (w:World) (qs:List LA) (cs:Array Value) (n:Nat) (T:TypeId) (hn:n=w.heap.size) (hc:cs=(bV qs).toArray):∀j u,(bV qs)[j]?=some u→(w.alloc (.cells cs T)).cell? ⟨n,j,none⟩=some u:=by
 intro j u hj
 subst hn hc
 exact(aH w (bV qs) T j).trans hj
theorem One.own {w wr w':World} {a:Array Value} {v:Value} {ls:List (List (List Int))} {base:Nat} (h:One w a wr) (ho:bH wr base v ls) (hb:w.heap.size+1≤base) (hg:wr.grownBy w' v.ownBlock):One w a w' :=
 Below.grown h hg h.size (fun _ e=>Nat.le_trans hb (zdz ho e))
theorem zhT (v:Value) (G:Gm.Gr) (B:Nat) (w:World) (hg:bC w B v G) (hf:Gm.Fit G) (hr:Gm.right G=true) (hB:B≤w.heap.size) :
  Calls Tryz.prog 21 #[v] w fun e w'=>∃v',e=.returned v'∧bH w' w.heap.size v' (Sh.lines G)∧Below w.heap.size w w':=by
 have hrt:=Gm.rt_of hr
 have HG:=aA hg
 obtain⟨AT,cT,AN,cN,AR,cR,rfl,⟨hlT,hmT⟩,⟨hlN,hmN⟩,⟨hlR,hmR⟩,ht,hn,hrl⟩:=hg
 have HRT:=aA hrt
 have hst:∃i:Nat,G.st=(i:Int)∧i<G.ns.length:=⟨G.st.toNat,by have:=hrt.s0;omega,by have:=hrt.s0;omega⟩
 obtain⟨i,hi,hil⟩:=hst
 have hT24:=hrt.t24
 have hR40:=hrt.r1
 have hTop:Sh.top G.ts≤24:=by
  rcases Sh.top_has G.ts with e|⟨t,hm,e⟩
  ·omega
  ·rw[←e];exact(hrt.tl t hm).2.1
 have HTK:=aA (fun(x:World) (h:Below w.heap.size w x)=>zf2 AT cT B G.ts x (ht.keep fun g o hgB=>h.cell (p:=⟨g,o,none⟩) (by simp only;omega)) (Nat.le_trans hB h.size) (by omega))
 have HLV:=aA (fun(x:World) (h:Below w.heap.size w x)=>zgv AT cT B G.ts x (ht.keep fun g o hgB=>h.cell (p:=⟨g,o,none⟩) (by simp only;omega)) (Nat.le_trans hB h.size) (by omega) (fun t hm=>⟨(hrt.tl t hm).1,by have:=(hrt.tl t hm).2.1;omega⟩))
 obtain⟨gn,on,rfl,hgn,hcn⟩:=hn (by omega)
 have n0:=hcn i hil
 have hgnw:gn<w.heap.size:=by omega
 have HS0:=aA (One.start w #[.slice AT G.ts.length cT,.slice (some ⟨gn,on,none⟩) G.ns.length cN,.slice AR G.rs.length cR,.int .i64 G.st])
 have HRL:=aA hrl
 have HF:=aA hf
 have HI:=aA hi
 have hi2:(i:Int)<(G.ns.length:Int):=by omega
 have HNM:Hid (G.ns.getD G.st.toNat []=G.ns[i]):=aA (by rw[hi,show((i:Int)).toNat=i from rfl,Sh.getD_at _ _ _ hil])
 rw[hi]at HS0 ⊢
 have HTop:Hid ((Sh.levels G.ts).length≤24):=aA (by rw[Sh.levels_len];omega)
 clear hrt ht hn hrl hf hr hcn hi hTop
 generalize G.ns[i]=nm at *
 go_enter Tryz.func21,Tryz.ntmps21
 go_wp2_with fail
 obtain⟨w1,hw1⟩:∃x,x=w.alloc (.cells #[.slice AT G.ts.length cT,.slice (some ⟨gn,on,none⟩) G.ns.length cN,.slice AR G.rs.length cR,.int .i64 (i:Int)] 26):=⟨_,rfl⟩
 rw[←hw1]at HS0 ⊢
 have q0:=HS0.out.c 0 _ rfl
 have Q0:=fun y:Calm.On w1.heap.size w1=>(y.2.cell (p:=⟨w.heap.size,0,none⟩) (by have:=HS0.out.size;simp only;omega)).trans q0
 refine Calm.region_tree (fun x=>∃y:Calm.On w1.heap.size w1,x=y.1) (.one [0,1,3,4] 2 (.one [] 5 (.one [] 6 (.one [] 7 (.fin [8]))))) (by kernel_rfl) (by kernel_rfl) (fun _ _ d _ _ h=>by cases d <;> exact h) ⟨⟨w1.drew,aB (Below.refl _ _) 1⟩,rfl⟩ ?_
 simp only[Calm.wpT,Calm.wpSt,Calm.pickOps,List.getElem?_toArray,List.getElem?_cons_zero,List.getElem?_cons_succ]
 have HW1:=aA (HS0.out.below)
 have HZ1:Hid (w1.heap.size=w.heap.size+1):=aA (by rw[hw1];simp)
 have hS1:=HS0.out.size
 repeat (go_big_quiet_step (fail))
 refine wpQuiet_nil ?_
 clear Q0 q0 hw1
 intro KK hKK
 rw[if_pos (by rfl)]
 go_wp2_with fail
 refine(HTK.out w1.drew (aB HW1.out 1)).mono ?_;rintro _ w2 ⟨v2,rfl,ho2,hb2⟩
 have HB2:Hid (Below w1.heap.size w1 w2):=aA ((aB (Below.refl w1.heap.size w1) 1).trans hb2)
 have HW2:=aA (HW1.out.trans (HB2.out.mono HW1.out.size))
 have HO2:=aA ho2
 obtain⟨A2,c2,rfl,_,_⟩:=ho2.form
 have hs2:w1.heap.size≤w2.heap.size:=hb2.size
 clear ho2 hb2
 go_wp2_with fail
 refine hKK _ _ ⟨⟨w2,HB2.out⟩,rfl⟩ (fun x=>∃y:Calm.On w1.heap.size w1,x=y.1) (fun _ h=>h) ⟨⟨w2,HB2.out⟩,rfl⟩ ?_
 refine wpQuiet_nil ?_
 intro KK hKK
 try rw[if_pos (by rfl)]
 go_wp2_with fail
 refine(HLV.out w2 HW2.out).mono ?_;rintro _ w3 ⟨v3,rfl,ho3,hb3⟩
 have HB3:Hid (Below w1.heap.size w1 w3):=aA (HB2.out.trans (hb3.mono hs2))
 have HW3:=aA (HW1.out.trans (HB3.out.mono HW1.out.size))
 have HO23:=aA (HO2.out.below hb3)
 have HO3:=aA ho3
 obtain⟨A3,c3,rfl,_,_⟩:=ho3.form
 have hs3:w1.heap.size≤w3.heap.size:=Nat.le_trans hs2 hb3.size
 clear ho3 hb3 HO2
 go_wp2_with fail
 refine hKK _ _ ⟨⟨w3,HB3.out⟩,rfl⟩ (fun x=>∃y:Calm.On w1.heap.size w1,x=y.1) (fun _ h=>h) ⟨⟨w3,HB3.out⟩,rfl⟩ ?_
 refine wpQuiet_nil ?_
 intro KK hKK
 try rw[if_pos (by rfl)]
 go_wp2_with fail
 obtain⟨w4,hw4⟩:∃x,x=w3.alloc (.cells #[.slice A2 (Sh.tokens G.ts).length c2,.slice A3 (Sh.levels G.ts).length c3] 48):=⟨_,rfl⟩
 rw[←hw4]
 have h34:Below w3.heap.size w3 w4:=by rw[hw4];exact(Below.refl _ _).alloc (Nat.le_refl _) _
 have HB4:Hid (Below w1.heap.size w1 w4):=aA (HB3.out.trans (h34.mono hs3))
 have HC4:=aA (zgJ w3.heap.size w1.heap.size (Sh.tokens G.ts).length (Sh.levels G.ts).length c2 c3 A2 A3 (Sh.tokens G.ts) (Sh.levels G.ts) w4 (by rw[hw4];exact aH w3 [.slice A2 (Sh.tokens G.ts).length c2,.slice A3 (Sh.levels G.ts).length c3] _ 0) (by rw[hw4];exact aH w3 [.slice A2 (Sh.tokens G.ts).length c2,.slice A3 (Sh.levels G.ts).length c3] _ 1) (by rw[hw4];simp) ((HO23.out.below h34).less (by have:=HB2.out.size;simp)) ((HO3.out.below h34).less hs2) (by rw[Sh.tokens_len];have:=HTop.out;omega))
 have HW4:=aA (HW1.out.trans (HB4.out.mono HW1.out.size))
 clear hw4 h34
 refine hKK _ _ ⟨⟨w4,HB4.out⟩,rfl⟩ (fun x=>∃y:Calm.On w1.heap.size w1,x=y.1) (fun _ h=>h) ⟨⟨w4,HB4.out⟩,rfl⟩ ?_
 refine wpQuiet_nil ?_
 intro KK hKK
 try rw[if_pos (by rfl)]
 go_wp2_with fail
 refine HC4.out.mono ?_;rintro _ w5 ⟨v5,rfl,ho5,hb5⟩
 have HB5:Hid (Below w1.heap.size w1 w5):=aA (HB4.out.trans (hb5.mono HB4.out.size))
 have HS5:=aA (HS0.out.on HB5.out)
 have HO5:=aA (ho5.less (base':=w1.heap.size) HB4.out.size)
 have HLEN5:Hid ((Sh.tokens G.ts++Sh.levels G.ts).length≤1000):=aA (by rw[List.length_append,Sh.tokens_len];have:=HTop.out;omega)
 have HHL:Hid (Sh.headLines G=(Sh.tokens G.ts++Sh.levels G.ts)++[[Sh.wStart,nm],[Sh.wMark]]):=aA (by unfold Sh.headLines;rw[HNM.out])
 generalize Sh.tokens G.ts++Sh.levels G.ts=l5 at *
 obtain⟨A5,c5,rfl,_,_⟩:=ho5.form
 clear ho5 hb5 HO23 HO3 HC4
 go_wp2_with fail
 refine hKK _ _ ⟨⟨w5,HB5.out⟩,rfl⟩ (fun x=>∃y:Calm.On w1.heap.size w1,x=y.1) (fun _ h=>h) ⟨⟨w5,HB5.out⟩,rfl⟩ ?_
 repeat (go_big_quiet_step (fail))
 refine wpQuiet_nil ?_
 have q1:=HS5.out.c 1 _ rfl
 have q3:=HS5.out.c 3 _ rfl
 have q2:=HS5.out.c 2 _ rfl
 have hz5:w.heap.size<w5.heap.size:=by have:=HS5.out.size;omega
 have n5:=(HS5.out.below.cell (p:=⟨gn,on+i,none⟩) hgnw).trans n0
 have hgn5:gn<w5.heap.size:=by omega
 have hi0:(0:Int)≤(i:Int):=by omega
 have HR1:=aA (((bU.new w5 0 w5.heap.size [Sh.wStart,nm] _ rfl rfl (Nat.zero_le _)).alloc (.cells (bJ [Sh.wMark]).toArray 9)).alloc (.cells (bV [([Sh.wStart,nm],some ⟨w5.heap.size,0,none⟩,2),([Sh.wMark],some ⟨w5.heap.size+1,0,none⟩,1)]).toArray 23))
 have HR2:=aA ((bU.new (w5.alloc (.cells (bJ [Sh.wStart,nm]).toArray 9)) 0 (w5.heap.size+1) [Sh.wMark] _ rfl (by simp) (Nat.zero_le _)).alloc (.cells (bV [([Sh.wStart,nm],some ⟨w5.heap.size,0,none⟩,2),([Sh.wMark],some ⟨w5.heap.size+1,0,none⟩,1)]).toArray 23))
 have HO8:=aA (((HO5.out.alloc (.cells (bJ [Sh.wStart,nm]).toArray 9)).alloc (.cells (bJ [Sh.wMark]).toArray 9)).alloc (.cells (bV [([Sh.wStart,nm],some ⟨w5.heap.size,0,none⟩,2),([Sh.wMark],some ⟨w5.heap.size+1,0,none⟩,1)]).toArray 23))
 have HS8:=aA (((HS5.out.alloc (.cells (bJ [Sh.wStart,nm]).toArray 9)).alloc (.cells (bJ [Sh.wMark]).toArray 9)).alloc (.cells (bV [([Sh.wStart,nm],some ⟨w5.heap.size,0,none⟩,2),([Sh.wMark],some ⟨w5.heap.size+1,0,none⟩,1)]).toArray 23))
 have HZ8:=aA (zgt ((w5.alloc (.cells (bJ [Sh.wStart,nm]).toArray 9)).alloc (.cells (bJ [Sh.wMark]).toArray 9)) [([Sh.wStart,nm],some ⟨w5.heap.size,0,none⟩,2),([Sh.wMark],some ⟨w5.heap.size+1,0,none⟩,1)] _ (w5.heap.size+1+1) 23 (by simp) rfl)
 go_wp2_with (at_builtin;(refine zcH rfl (.tmp 14) (.tmp 23) _ rfl Tryz.underlying48 w1.heap.size _ l5 rfl HO8.out _ 2 2 [([Sh.wStart,nm],some ⟨w5.heap.size,0,none⟩,2),([Sh.wMark],some ⟨w5.heap.size+1,0,none⟩,1)] rfl rfl (fun _=>⟨_,rfl,HZ8.out⟩) (fun q hq=>?_) (by have:=HLEN5.out;simp;omega) (by have:=HB5.out.size;simp;omega) ?_))
 ·rcases List.mem_cons.1 hq with e|hq
  ·rw[e];exact⟨by simp,by show(2:Nat)≤_;omega,HR1.out⟩
  ·rw[List.mem_singleton.1 hq];exact⟨by simp,by show(1:Nat)≤_;omega,HR2.out⟩
 intro v9 w9 ho9 hg9
 have HO9:Hid (bH w9 w1.heap.size v9 (Sh.someLines G 0)):=aA (by unfold Sh.someLines;rw[HHL.out,List.take_zero,List.map_nil,List.append_nil];exact ho9)
 have HS9:=aA (HS8.out.own HO8.out (by have:=HS0.out.size;simp at *;omega) hg9)
 clear ho9 hg9 HO8 HS8 HZ8 HR1 HR2 HO5 HS5 q1 q2 q3 n5
 have q2:=HS9.out.c 2 _ rfl
 have hz9:w.heap.size<w9.heap.size:=by have:=HS9.out.size;omega
 go_wp2
 go_loopw [3,28] (fun vl vi wr=>∃(k:Nat),k≤G.rs.length∧vi=.int .i64 k∧bH wr w1.heap.size vl (Sh.someLines G k)∧One w #[.slice AT G.ts.length cT,.slice (some ⟨gn,on,none⟩) G.ns.length cN,.slice AR G.rs.length cR,.int .i64 i] wr) (fun _ vi _=>G.rs.length-(intOf vi).toNat)
 case atStart=>exact⟨0,Nat.zero_le _,rfl,HO9.out,HS9.out⟩
 case round =>
  obtain⟨k,hk,rfl,ho,hb⟩:=hrel
  have HO:=aA ho
  have HB:=aA hb
  obtain⟨A6,c6,rfl,_,_⟩:=ho.form
  by_cases hlt:k<G.rs.length
  ·obtain⟨g,o,rfl,hgB,hc⟩:=HRL.out (by omega)
   obtain⟨hc0,⟨Ar,cr,hc1,hcr1,hcr2,hri⟩,hc2⟩:=hc k hlt
   have hgw:g<w.heap.size:=by omega
   have hbw:=hb.below
   have k0:=(hbw.cell (p:=⟨g,o+k*3,none⟩) hgw).trans hc0
   have k1:=(hbw.cell (p:=⟨g,o+k*3+1,none⟩) hgw).trans hc1
   have k2:=(hbw.cell (p:=⟨g,o+k*3+2,none⟩) hgw).trans hc2
   have hgs:g<wr.heap.size:=by have:=hb.size;omega
   have hz:w.heap.size<wr.heap.size:=by have:=hb.size;omega
   have hrule:=(Gm.rules_le G G.rs _ HRT.out.rr).2 _ (List.getElem_mem hlt)
   have hparts:=Gm.rule_parts hrule.2.2
   have hfr:=HF.out.r _ (List.getElem_mem hlt)
   have HSL:=aA (fun(x:World) (h:One w #[.slice AT G.ts.length cT,.slice (some ⟨gn,on,none⟩) G.ns.length cN,.slice (some ⟨g,o,none⟩) G.rs.length cR,.int .i64 i] x)=>zhe _ G B G.rs[k] Ar cr x (HG.out.below h.below hB) (hri.below h.below hB) hfr.2.2 hfr.2.1 (Nat.le_trans hB h.below.size) hrule.1 hrule.2.1 (by omega))
   have HN:=aA (Sh.someLines_next hlt)
   have p0:=hb.c 0 _ rfl
   have p1:=hb.c 1 _ rfl
   have p2:=hb.c 2 _ rfl
   have p3:=hb.c 3 _ rfl
   rw[HI.out]at HSL
   clear hc hc0 hc1 hc2 hcr1 hcr2 hri hbw hrule hparts hfr ho hb
   go_wp2_with fail
   refine(HSL.out _ (HB.out.alloc _)).mono ?_;rintro _ w7 ⟨v7,rfl,ho7,hb7⟩
   have HB7:=aA ((HB.out.alloc _).on hb7)
   have HO7:=aA ((HO.out.alloc _).below hb7)
   obtain⟨A7,c7,rfl,hl7,hm7,hrw7⟩:=bU.of_own (ho7.less (Nat.zero_le _))
   have HRW:=aA (hrw7.alloc (.cells (liC (Sh.rule G G.rs[k],A7,c7)).toArray 23))
   have HLC:=aA (And.intro hl7 (show c7≤9223372036854775807 by unfold maxLen at hm7;omega))
   have HCE:=aA (zer w7 (Sh.rule G G.rs[k],A7,c7) w7.heap.size 23 rfl)
   have HLN:Hid ((Sh.someLines G k).length≤2000):=aA (by unfold Sh.someLines;rw[HHL.out];have:=HLEN5.out;simp;omega)
   clear ho7 hb7 hrw7 hl7 hm7
   go_wp2_with (at_builtin;(refine zcH rfl (.tmp 32) (.tmp 36) _ rfl Tryz.underlying48 w1.heap.size _ (Sh.someLines G k) rfl (HO7.out.alloc _) _ 1 1 [(Sh.rule G G.rs[k],A7,c7)] rfl rfl (fun _=>⟨_,rfl,HCE.out⟩) (fun q hq=>by rw[List.mem_singleton.1 hq];exact⟨HLC.out.1,HLC.out.2,HRW.out⟩) (by have:=HLN.out;simp;omega) (by have h1:=HB7.out.size;have h2:=HZ1.out;simp;omega) ?_;intro v8 w8 ho8 hg8))
   have HB8:=aA ((HB7.out.alloc _).own (HO7.out.alloc _) (by have:=HS0.out.size;omega) hg8)
   have HO8:=aA ho8
   clear ho8 hg8
   go_roundw
   case rel=>exact⟨k+1,by omega,by go_num,by rw[HN.out];exact HO8.out,HB8.out⟩
   case measure=>simp[intOf];omega
  ·obtain rfl:k=G.rs.length:=by omega
   rw[Sh.someLines_all]at *
   clear ho hb
   go_wp2
   go_ret
   exact⟨_,rfl,HO.out.less (by have:=HS0.out.size;omega),HB.out.below⟩
theorem sizeBuilder:(Tryz.prog.info? 68).map (·.size)=some 2:=by kernel_rfl
theorem liesBuilder:liesAt Tryz.prog Tryz.prog.depth 68 (2 / Tryz.prog.cellsOf 68) 0 68 1=true:=by kernel_rfl
theorem infoByte:(Tryz.prog.info? 5).map (fun i=>(i.zero,i.size,i.bytes))=some (some (.int .u8 0),1,1):=by kernel_rfl
set_option maxRecDepth 100000 in
theorem zcP (b:Nat) (w:World) (h0:w.cell? ⟨b,0,none⟩=some (.pointer (some ⟨b,0,none⟩))) :
  Calls Tryz.prog 70 #[.pointer (some ⟨b,0,none⟩)] w fun e w'=>e=.returned (.tuple #[])∧w'=w:=by
 obtain⟨j,hj,_⟩:=Option.map_eq_some_iff.1 sizeBuilder
 go_enter Tryz.func70,Tryz.ntmps70
 go_wp2
 rw[Lib.run_neq_ptr_same w _ Tryz.underlying66 hj]
 go_wp2
 go_end0
 exact⟨rfl,rfl⟩
set_option maxRecDepth 100000 in
theorem zcD (b:Nat) (w:World) (h0:w.cell? ⟨b,0,none⟩=some (.pointer none)) (hsh:w.shape? b=some (68,2)) (hfz:w.frozen? ⟨b,0,none⟩=false) :
  Calls Tryz.prog 70 #[.pointer (some ⟨b,0,none⟩)] w fun e w'=>e=.returned (.tuple #[])∧w'=w.setCell ⟨b,0,none⟩ (.pointer (some ⟨b,0,none⟩)):=by
 obtain⟨j,hj,hjs⟩:=Option.map_eq_some_iff.1 sizeBuilder
 go_enter Tryz.func70,Tryz.ntmps70
 go_wp2
 rw[Lib.run_to_unsafe w ⟨b,0,none⟩ Tryz.underlying66 Tryz.underlying152 hj (by rw[hjs];decide) hsh (Nat.zero_lt_succ 1)]
 simp only[Result.andThen]
 rw[Oper.upon_value]
 go_wp2
 rw[run_callFunc_extern Tryz.func106 (by kernel_rfl) (by kernel_rfl) (by kernel_rfl) (e:=Extern.AbiNoEscape.same) (by kernel_rfl)]
 rw[Lib.run_noEscape]
 simp only[Result.andThen]
 rw[Oper.upon_value]
 go_wp2
 rw[Lib.run_from_unsafe w ⟨b,0,none⟩ Tryz.underlying152 Tryz.underlying66 hj hsh liesBuilder]
 simp only[Result.andThen]
 rw[Oper.upon_value]
 go_wp2
 go_end0
 exact⟨rfl,rfl⟩
theorem zbx (B b:Nat) (bs:List Value) (w:World) (h:Lib.IsBuilder 68 5 B b bs w) :
  Calls Tryz.prog 70 #[.pointer (some ⟨b,0,none⟩)] w fun e w'=>e=.returned (.tuple #[])∧(Lib.BuilderAt 68 5 B b (.pointer (some ⟨b,0,none⟩)) bs w'∧Below B w w'):=by
 rcases h with h|h
 ·refine(zcD b w h.cell0 h.shape h.frozen0).mono ?_
  rintro e w' ⟨rfl,rfl⟩
  exact⟨rfl,h.used _,(Below.refl B w).setCell (p:=⟨b,0,none⟩) h.1 _⟩
 ·refine(zcP b w h.cell0).mono ?_
  rintro e w' ⟨rfl,rfl⟩
  exact⟨rfl,h,Below.refl B _⟩
set_option maxRecDepth 100000 in
theorem zb6 (B b:Nat) (bs:List Value) (s:ByteArray) (w:World) (h:Lib.IsBuilder 68 5 B b bs w) (hlen:bs.length+s.size≤140737488355328) (hBw:B≤w.heap.size) :
  Calls Tryz.prog 38 #[.pointer (some ⟨b,0,none⟩),.string s] w fun e w'=>e=.returned (.tuple #[.int .i64 s.size,.nilIface])∧(Lib.BuilderAt 68 5 B b (.pointer (some ⟨b,0,none⟩)) (bs++Lib.strCells s) w'∧Below B w w'):=by
 obtain⟨i0,hi,hz0,hz1,hz2⟩:=info_parts infoByte
 go_enter Tryz.func38,Tryz.ntmps38
 go_wp2_with (go_at_call 70;refine(zbx B b bs _ h).mono ?_)
 rintro e w1 ⟨rfl,h1,hb1⟩
 obtain⟨hB,v,hbk,hown,hne⟩:=h1
 have c0:w1.cell? ⟨b,0,none⟩=some (.pointer (some ⟨b,0,none⟩)):=by rw[Lib.cell_of_heap hbk];rfl
 have c1:w1.cell? ⟨b,1,none⟩=some v:=by rw[Lib.cell_of_heap hbk];rfl
 go_wp2_with (at_builtin;refine Lib.wpList_append_own_string _ rfl _ _ 40 9 rfl B 5 i0 Tryz.underlying40 Tryz.underlying9 hi hz0 hz1 hz2 _ _ _ rfl hown s rfl ?c3 ?c4 ?c5 ?_)
 case c3=>unfold maxLen;omega
 case c4=>omega
 case c5=>have:=hb1.size;omega
 intro v' w2 hown' hgrow _
 have hlt:b<w1.heap.size:=by
  rcases Nat.lt_or_ge b w1.heap.size with h'|h'
  ·exact h'
  ·simp[Array.getElem?_eq_none h']at hbk
 have hb2:w2.heap[b]?=some (.cells #[.pointer (some ⟨b,0,none⟩),v] 68 (0,0)):=by
  rw[hgrow.block b hlt (fun e=>hne e.symm)]
  exact hbk
 have d0:w2.cell? ⟨b,0,none⟩=some (.pointer (some ⟨b,0,none⟩)):=by rw[Lib.cell_of_heap hb2];rfl
 have d1:w2.cell? ⟨b,1,none⟩=some v:=by rw[Lib.cell_of_heap hb2];rfl
 have f1:w2.frozen? ⟨b,1,none⟩=false:=Lib.frozen_of_heap hb2 1
 obtain⟨ao,n',cap,rfl⟩:∃ao n' cap,v'=.slice ao n' cap:=by
  rcases hown'.2 with⟨hv,_⟩|⟨g,cap,cur,hv,_⟩
  ·exact⟨_,_,_,hv⟩
  ·exact⟨_,_,_,hv⟩
 go_wp2
 go_ret2
 refine⟨rfl,?_,?_⟩
 ·exact Lib.BuilderAt.put (T:=68) (e:=5) hB hb2 (bs':=bs++Lib.strCells s) (by simpa[Lib.strCells_length] using hown') (by decide)
 ·exact(hb1.grown hgrow (by have:=hb1.size;omega) (fun k hk=>(hown.lt k hk).1)).setCell (p:=⟨b,1,none⟩) hB _
theorem zdk (B b:Nat) (bs:List Value) (c:Int) (w:World) (h:Lib.IsBuilder 68 5 B b bs w) (hlen:bs.length+1≤140737488355328) (hBw:B≤w.heap.size) :
  Calls Tryz.prog 40 #[.pointer (some ⟨b,0,none⟩),.int .u8 c] w fun e w'=>e=.returned .nilIface∧(Lib.BuilderAt 68 5 B b (.pointer (some ⟨b,0,none⟩)) (bs++[.int .u8 c]) w'∧Below B w w'):=by
 obtain⟨i0,hi,hz0,hz1,hz2⟩:=info_parts infoByte
 go_enter Tryz.func40,Tryz.ntmps40
 go_wp2_with (go_at_call 70;refine(zbx B b bs _ h).mono ?_)
 rintro e w1 ⟨rfl,h1,hb1⟩
 obtain⟨hB,v,hbk,hown,hne⟩:=h1
 have c0:w1.cell? ⟨b,0,none⟩=some (.pointer (some ⟨b,0,none⟩)):=by rw[Lib.cell_of_heap hbk];rfl
 have c1:w1.cell? ⟨b,1,none⟩=some v:=by rw[Lib.cell_of_heap hbk];rfl
 go_wp2_with (at_builtin;refine wpList_append_own _ rfl _ _ 40 rfl B 5 i0 (.int .u8 0) 1 1 Tryz.underlying40 hi hz0 hz1 hz2 rfl (by decide) _ _ _ rfl (hown.alloc _) ⟨w1.heap.size,0,none⟩ 1 1 [.int .u8 c] rfl rfl ?c1 ?c2 ?c3 ?c4 ?c5 ?_)
 case c1 =>
  intro j u hj
  match j,hj with
  | 0,hj=>simp at hj;subst hj;simp[Addr.add]
 case c2=>intro u hu;simp at hu;subst hu;rfl
 case c3=>unfold maxLen;omega
 case c4=>omega
 case c5=>have:=hb1.size;simp;omega
 intro v' w2 hown' hgrow _
 have hlt:b<w1.heap.size:=by
  rcases Nat.lt_or_ge b w1.heap.size with h'|h'
  ·exact h'
  ·simp[Array.getElem?_eq_none h']at hbk
 have hb2:w2.heap[b]?=some (.cells #[.pointer (some ⟨b,0,none⟩),v] 68 (0,0)):=by
  rw[hgrow.block b (by simp;omega) (fun e=>hne e.symm),Lib.alloc_old w1 _ b hlt]
  exact hbk
 have d0:w2.cell? ⟨b,0,none⟩=some (.pointer (some ⟨b,0,none⟩)):=by rw[Lib.cell_of_heap hb2];rfl
 have d1:w2.cell? ⟨b,1,none⟩=some v:=by rw[Lib.cell_of_heap hb2];rfl
 have f1:w2.frozen? ⟨b,1,none⟩=false:=Lib.frozen_of_heap hb2 1
 obtain⟨g,cap,rfl⟩:∃g cap,v'=.slice (some ⟨g,0,none⟩) (bs.length+1) cap:=by
  rcases hown'.2 with⟨_,h0⟩|⟨g,cap,cur,hv,_⟩
  ·omega
  ·exact⟨g,cap,hv⟩
 go_wp2
 go_ret
 refine⟨rfl,?_,?_⟩
 ·exact Lib.BuilderAt.put (T:=68) (e:=5) hB hb2 (bs':=bs++[.int .u8 c]) (by simpa using hown') (by decide)
 ·exact((hb1.alloc (by have:=hb1.size;omega) _).grown hgrow (by have:=hb1.size;simp;omega) (fun k hk=>(hown.lt k hk).1)).setCell (p:=⟨b,1,none⟩) hB _
theorem K.bytes_app (l m:List Int):K.bytes (l++m)=K.bytes l++K.bytes m:=by unfold K.bytes;rw[List.map_append]
theorem K.bytes_len (l:List Int):(K.bytes l).length=l.length:=by unfold K.bytes;rw[List.length_map]
namespace Sh
theorem join_bytes (ws:List (List Int)):Lib.join ((ws.map K.str).map (·.data.toList)) [32]=K.bytes (joinW ws):=by
 induction ws with
 | nil=>rfl
 | cons w r ih=>cases r with
  | nil=>rw[List.map_cons,List.map_cons,List.map_nil,List.map_nil,Lib.join_one];rfl
  | cons v r =>
   have e:Lib.join ((K.str w).data.toList::(K.str v).data.toList::(r.map K.str).map (·.data.toList)) [32]=(K.str w).data.toList++([32]++Lib.join ((K.str v).data.toList::(r.map K.str).map (·.data.toList)) [32]):=by
    unfold Lib.join List.intercalate
    simp[List.intersperse]
   have ih':Lib.join ((K.str v).data.toList::(r.map K.str).map (·.data.toList)) [32]=K.bytes (joinW (v::r)):=ih
   rw[List.map_cons,List.map_cons,List.map_cons,List.map_cons,e,ih',joinW,K.bytes_app]
   rfl
theorem flat_take {ls:List (List (List Int))} (k:Nat) (h:k<ls.length):flat (ls.take (k+1))=flat (ls.take k)++(joinW ls[k]++[10]):=by
 unfold flat
 rw[List.take_succ_eq_append_getElem h,List.flatMap_append,List.flatMap_singleton]
 rfl
theorem flat_take_le (ls:List (List (List Int))) (k:Nat):(flat (ls.take k)).length≤(flat ls).length:=by
 have e:flat ls=flat (ls.take k)++flat (ls.drop k):=by
  unfold flat;rw[←List.flatMap_append,List.take_append_drop]
 rw[e,List.length_append]
 omega
end Sh
theorem zdL {w:World} {g o:Nat} {v:Value} (h:w.cell? ⟨g,o,none⟩=some v):g<w.heap.size:=by
 rcases Nat.lt_or_ge g w.heap.size with q|q
 ·exact q
 ·simp[World.cell?,Array.getElem?_eq_none q]at h
theorem zh7 {T e:TypeId} {B b:Nat} {bs:List Value} {w w':World} (h:Lib.IsBuilder T e B b bs w) (hb:Below w.heap.size w w'):Lib.IsBuilder T e B b bs w':=by
 have key:∀p,Lib.BuilderAt T e B b p bs w→Lib.BuilderAt T e B b p bs w':=fun p ⟨h1,v,h2,h3,h4⟩ =>
  ⟨h1,v,(hb.block b (Array.getElem?_eq_some_iff.1 h2).1).trans h2,World.ownsRow.kept h3 (aQ hb .none) (by rcases v.ownBlock with _|k;exact .inl rfl;exact .inr (by simp)),h4⟩
 exact h.elim (fun x=>.inl (key _ x)) (fun x=>.inr (key _ x))
theorem zgx (A:Option Addr) (base n c:Nat) (ls:List (List (List Int))) (w:World) (ho:bH w base (.slice A n c) ls) (hne:∀l∈ls,l≠[]) (hlen:(Sh.flat ls).length≤100000) (hlw:∀l∈ls,l.length≤100000) (hn:ls.length≤100000) :
  Calls Tryz.prog 20 #[.slice A n c] w fun e w'=>e=.returned (.string (K.str (Sh.flat ls)))∧Below w.heap.size w w':=by
 obtain⟨qs,hq1,hq2,hq3,hq4⟩:=ho.parts
 have hnl:n=ls.length:=by rw[←hq1,List.length_map,hq2]
 subst hnl
 have HQ3:=aA hq3
 have HQ4:=aA hq4
 have HQ1:=aA (And.intro hq1 hq2)
 have HNE:=aA hne
 have HLEN:=aA hlen
 have HLW:=aA hlw
 clear hq1 hq2 hq3 hq4 hne hlen hlw ho
 have HB0:Hid (Lib.IsBuilder 68 5 w.heap.size w.heap.size (Lib.byteCells (K.bytes (Sh.flat (ls.take 0)))) (w.alloc (.cells #[.pointer none,.slice none 0 0] 68))):=aA (.inl ⟨Nat.le_refl _,_,heap_alloc_new w _,World.ownsRow_nil _ _ _ _,by intro e;cases e⟩)
 go_enter Tryz.func20,Tryz.ntmps20
 go_wp2
 go_loopw [8] (fun vi wr=>∃(k:Nat),k≤ls.length∧vi=.int .i64 k∧Lib.IsBuilder 68 5 w.heap.size w.heap.size (Lib.byteCells (K.bytes (Sh.flat (ls.take k)))) wr∧Below w.heap.size w wr) (fun vi _=>ls.length-(intOf vi).toNat)
 case atStart=>exact⟨0,Nat.zero_le _,rfl,HB0.out,(Below.refl _ _).alloc (Nat.le_refl _) _⟩
 case round =>
  obtain⟨k,hk,rfl,hbu,hb⟩:=hrel
  have HBU:=aA hbu
  have HB:=aA hb
  have HS:=aA hb.size
  by_cases hlt:k<ls.length
  ·have hkq:k<qs.length:=by rw[HQ1.out.2];exact hlt
   have hqk:qs[k].1=ls[k]:=by
    have:=HQ1.out.1
    have e:(qs.map (·.1))[k]'(by simpa using hkq)=ls[k]:=by simp only[this]
    simpa using e
   obtain⟨g,rfl,hc⟩:=HQ3.out (by intro e;rw[e]at hkq;simp at hkq)
   have hcell:=hc k (.slice qs[k].2.1 qs[k].1.length qs[k].2.2) (by rw[zhS,List.getElem?_eq_getElem hkq];rfl)
   obtain⟨e1,e2,hrow⟩:=HQ4.out qs[k] (List.getElem_mem hkq)
   rw[hqk]at hcell e1 hrow
   have hnek:=HNE.out _ (List.getElem_mem hlt)
   have hl0:ls[k].length≠0:=fun e=>hnek (List.eq_nil_of_length_eq_zero e)
   obtain⟨gr,cur,e3,_,hgr,hheap,hcur⟩:=hrow hl0
   have hgw:=zdL hcell
   have c0:=(hb.cell (p:=⟨g,k,none⟩) hgw).trans hcell
   rw[e3]at c0
   have hgs:g<wr.heap.size:=by have:=hb.size;omega
   have HJ:=aA (Tryz.strings_Join gr 0 qs[k].2.2 (ls[k].map K.str) ⟨#[32]⟩ wr (fun j x hj=>by
    rw[List.getElem?_map]at hj
    obtain⟨y,hy,rfl⟩:=Option.map_eq_some_iff.1 hj
    obtain⟨hjl,rfl⟩:=List.getElem?_eq_some_iff.1 hy
    rw[Nat.zero_add]
    exact(hb.cell (p:=⟨gr,j,none⟩) hgr).trans ((cell_of_row w gr j _ _ _ hheap).trans (hcur j hjl))) (by have:=hb.size;omega) (by have:=HLW.out _ (List.getElem_mem hlt);rw[List.length_map];omega) (by rw[List.length_map];exact e1) (by
    rw[show(⟨#[32]⟩:ByteArray).data.toList=[32] from rfl,Sh.join_bytes,K.bytes_len]
    have h1:=Sh.flat_take k hlt
    have h2:=Sh.flat_take_le ls (k+1)
    rw[h1,List.length_append,List.length_append]at h2
    have:=HLEN.out
    omega))
   rw[show(⟨#[32]⟩:ByteArray).data.toList=[32] from rfl,Sh.join_bytes,List.length_map]at HJ
   have HFT:=aA (Sh.flat_take k hlt)
   have HFL:=aA (Sh.flat_take_le ls (k+1))
   generalize hm:qs[k].2.2=cq at *
   clear hcell hrow e1 e2 e3 hnek hl0 hcur hheap hgr hqk hc hbu hb
   go_wp2_with fail
   refine HJ.out.mono ?_;rintro _ w2 ⟨rfl,hb2⟩
   have HB2:=aA (HB.out.trans (hb2.mono HS.out))
   have HBU2:=aA (zh7 HBU.out hb2)
   clear hb2
   have hf:(Sh.flat (ls.take k)).length+(Sh.joinW ls[k]).length+1≤100000:=by
    have h1:=HFL.out;rw[HFT.out,List.length_append,List.length_append]at h1
    have:=HLEN.out
    simp at h1
    omega
   have HWS:=aA (zb6 w.heap.size w.heap.size _ (K.str (Sh.joinW ls[k])) w2 HBU2.out (by rw[Lib.byteCells_length,K.bytes_len];have:(K.str (Sh.joinW ls[k])).size=(Sh.joinW ls[k]).length:=(by show(K.bytes _).toArray.size=_;rw[List.size_toArray,K.bytes_len]);omega) HB2.out.size)
   go_wp2_with fail
   refine HWS.out.mono ?_;rintro _ w3 ⟨rfl,hbu3,hb3⟩
   have HB3:=aA (HB2.out.trans hb3)
   have HWB:=aA (zdk w.heap.size w.heap.size _ 10 w3 (.inr hbu3) (by rw[List.length_append,Lib.byteCells_length,K.bytes_len,Lib.strCells_length];have:(K.str (Sh.joinW ls[k])).size=(Sh.joinW ls[k]).length:=(by show(K.bytes _).toArray.size=_;rw[List.size_toArray,K.bytes_len]);omega) (HB2.out.trans hb3).size)
   clear hbu3 hb3
   go_wp2_with fail
   refine HWB.out.mono ?_;rintro _ w4 ⟨rfl,hbu4,hb4⟩
   have HB4:=aA (HB3.out.trans hb4)
   have HBU4:Hid (Lib.IsBuilder 68 5 w.heap.size w.heap.size (Lib.byteCells (K.bytes (Sh.flat (ls.take (k+1))))) w4):=aA (by
    have e:Lib.byteCells (K.bytes (Sh.flat (ls.take (k+1))))=Lib.byteCells (K.bytes (Sh.flat (ls.take k)))++Lib.strCells (K.str (Sh.joinW ls[k]))++[.int .u8 10]:=by
     rw[HFT.out,K.bytes_app,K.bytes_app]
     unfold Lib.byteCells Lib.strCells
     rw[List.map_append,List.map_append,List.append_assoc]
     rfl
    rw[e];exact .inr hbu4)
   clear hbu4 hb4
   go_wp2
   go_roundw
   case rel=>exact⟨k+1,by omega,by go_num,HBU4.out,HB4.out⟩
   case measure=>simp[intOf];omega
  ·obtain rfl:k=ls.length:=by omega
   have HST:=aA (Tryz.Builder_String_any w.heap.size w.heap.size (K.bytes (Sh.flat (ls.take ls.length))) wr HBU.out HS.out)
   rw[List.take_length]at HST
   clear hbu hb
   go_wp2_with fail
   refine HST.out.mono ?_;rintro _ w2 ⟨rfl,hb2⟩
   have HB2:=aA (HB.out.trans hb2)
   clear hb2
   go_wp2
   go_ret
   exact⟨rfl,HB2.out⟩
def isT (z:Int):Bool:=decide (0≤z)
def zbG (G:Gm.Gr) (z:Int):Bool:=!Gm.has G z
theorem zgA (A:Option Addr) (c B:Nat) (l:List Int) (w:World) (hr:RdI w B A l) (hB:B≤w.heap.size) (hlen:(l.length:Int)≤9223372036854775807) :
  Calls Tryz.prog 143 #[.slice A l.length c,.func (Fn.func 89) #[] #[]] w fun e w'=>∃n:Int,e=.returned (.int .i64 n)∧decide (0≤n)=l.any isT∧Below w.heap.size w w':=by
 have HT:=aA hr
 have HB0:=aA (Below.refl w.heap.size w)
 clear hr
 go_enter Tryz.func143,Tryz.ntmps143
 go_wp2
 go_loopw [8] (fun vi wr=>∃(k:Nat),k≤l.length∧vi=.int .i64 k∧Hid (zfm l (fun z=>!isT z) k)∧Below w.heap.size w wr) (fun vi _=>l.length-(intOf vi).toNat)
 case atStart=>exact⟨0,Nat.zero_le _,rfl,aA (zfm.zero _ _),HB0.out⟩
 case round =>
  obtain⟨k,hk,rfl,HA,hb⟩:=hrel
  have HB:=aA hb
  by_cases hlt:k<l.length
  ·obtain⟨g,o,rfl,hgb,hc⟩:=HT.out (by omega)
   have k0:=(hb.cell (p:=⟨g,o+k,none⟩) (Nat.lt_of_lt_of_le hgb hB)).trans (hc k hlt)
   rw[L.gd_lt hlt]at k0
   have HC:=aA (fun(x:World) (_:Below w.heap.size w x)=>(zag l[k] x).mono (fun e w' h=>⟨h.1,by rw[h.2];exact Below.refl _ _⟩:∀e w',_→(e=.returned (.bool (isT l[k]))∧Below x.heap.size x w')))
   have HN:=aA (fun h=>HA.out.next hlt h)
   have HY:=aA (fun(h:isT l[k]=true)=>(List.any_eq_true.2 ⟨_,List.getElem_mem hlt,h⟩:l.any isT=true))
   clear hb hc
   obtain⟨z,qz⟩:∃z,z=l[k]:=⟨_,rfl⟩
   rw[←qz]at k0 HC HN HY
   clear qz
   cases q:isT z
   ·have HX:=aA (HN.out (by simp only[q];rfl))
    rw[q]at HC
    clear q HN HY
    go_wp2_with fail
    refine(HC.out _ HB.out).mono ?_;rintro _ w2 ⟨rfl,hb2⟩
    have HB2:=aA (HB.out.trans (hb2.mono HB.out.size))
    clear hb2
    go_wp2
    go_roundw
    case rel=>exact⟨k+1,by omega,by go_num,HX,HB2.out⟩
    case measure=>simp[intOf];omega
   ·have HX:=aA (HY.out q)
    rw[q]at HC
    clear q HN HY
    go_wp2_with fail
    refine(HC.out _ HB.out).mono ?_;rintro _ w2 ⟨rfl,hb2⟩
    have HB2:=aA (HB.out.trans (hb2.mono HB.out.size))
    clear hb2
    go_wp2
    go_ret
    exact⟨k,rfl,by rw[HX.out];simp,HB2.out⟩
  ·obtain rfl:k=l.length:=by omega
   have HX:Hid (l.any isT=false):=aA (by
    rw[List.any_eq_false]
    intro z hz
    obtain⟨i,hi,rfl⟩:=List.getElem_of_mem hz
    have:=HA.out i hi hi
    simpa using this)
   clear hb
   go_wp2
   go_ret
   exact⟨-1,rfl,by rw[HX.out];rfl,HB.out⟩
theorem zdK (A:Option Addr) (c B:Nat) (l:List Int) (w:World) (hr:RdI w B A l) (hB:B≤w.heap.size) (hlen:(l.length:Int)≤9223372036854775807) :
  Calls Tryz.prog 103 #[.slice A l.length c,.func (Fn.func 89) #[] #[]] w fun e w'=>e=.returned (.bool (l.any isT))∧Below w.heap.size w w':=by
 have HI:=aA (zgA A c B l w hr hB hlen)
 clear hr hlen
 go_enter Tryz.func103,Tryz.ntmps103
 go_wp2_with fail
 refine HI.out.mono ?_;rintro _ w2 ⟨n,rfl,hn,hb⟩
 have HN:=aA hn
 have HB:=aA hb
 clear hn hb
 go_wp2
 go_ret
 exact⟨aG HN.out,HB.out⟩
theorem zgB (v:Value) (G:Gm.Gr) (B gb:Nat) (z:Int) (a:Array Value) (hv:v=.agg a) (hz:Gm.In z) (w:World) (hg:bC w B v G) (hb:w.heap[gb]?=some (.cells a 26 (0,0))) :
  Calls Tryz.prog 104 #[.int .i64 z,.pointer (some ⟨gb,0,none⟩)] w fun e w'=>e=.returned (.bool (zbG G z))∧Below w.heap.size w w':=by
 have HH:=aA (zfa v G B z hz w hg)
 obtain⟨AT,cT,AN,cN,AR,cR,rfl,_⟩:=hg
 injection hv with hv
 subst hv
 have c0:=cell_of_row w gb 0 _ _ _ hb
 have c1:=cell_of_row w gb 1 _ _ _ hb
 have c2:=cell_of_row w gb 2 _ _ _ hb
 have c3:=cell_of_row w gb 3 _ _ _ hb
 clear hb hz
 go_enter Tryz.func104,Tryz.ntmps104
 go_wp2_with fail
 refine HH.out.mono ?_;rintro _ w2 ⟨rfl,hb⟩
 have HB:=aA hb
 clear hb
 go_wp2
 go_ret
 exact⟨rfl,HB.out⟩
theorem zib (A:Option Addr) (c B:Nat) (l:List Int) (w:World) (G:Gm.Gr) (gb B2:Nat) (a:Array Value) (hin:∀z∈l,Gm.In z) (hg:∀x:World,Below w.heap.size w x→bC x B2 (.agg a) G) (hgb:∀x:World,Below w.heap.size w x→x.heap[gb]?=some (.cells a 26 (0,0))) (hr:RdI w B A l) (hB:B≤w.heap.size) (hlen:(l.length:Int)≤9223372036854775807) :
  Calls Tryz.prog 143 #[.slice A l.length c,.func (Fn.func 104) #[] #[.pointer (some ⟨gb,0,none⟩)]] w fun e w'=>∃n:Int,e=.returned (.int .i64 n)∧decide (0≤n)=l.any (zbG G)∧Below w.heap.size w w':=by
 have HT:=aA hr
 have HB0:=aA (Below.refl w.heap.size w)
 have HIN:=aA hin
 have HG:=aA hg
 have HGB:=aA hgb
 clear hin hg hgb
 clear hr
 go_enter Tryz.func143,Tryz.ntmps143
 go_wp2
 go_loopw [8] (fun vi wr=>∃(k:Nat),k≤l.length∧vi=.int .i64 k∧Hid (zfm l (fun z=>!(zbG G) z) k)∧Below w.heap.size w wr) (fun vi _=>l.length-(intOf vi).toNat)
 case atStart=>exact⟨0,Nat.zero_le _,rfl,aA (zfm.zero _ _),HB0.out⟩
 case round =>
  obtain⟨k,hk,rfl,HA,hb⟩:=hrel
  have HB:=aA hb
  by_cases hlt:k<l.length
  ·obtain⟨g,o,rfl,hgb,hc⟩:=HT.out (by omega)
   have k0:=(hb.cell (p:=⟨g,o+k,none⟩) (Nat.lt_of_lt_of_le hgb hB)).trans (hc k hlt)
   rw[L.gd_lt hlt]at k0
   have HC:=aA (fun(x:World) (h:Below w.heap.size w x)=>zgB (.agg a) G B2 gb l[k] a rfl (HIN.out _ (List.getElem_mem hlt)) x (HG.out x h) (HGB.out x h))
   have HN:=aA (fun h=>HA.out.next hlt h)
   have HY:=aA (fun(h:(zbG G) l[k]=true)=>(List.any_eq_true.2 ⟨_,List.getElem_mem hlt,h⟩:l.any (zbG G)=true))
   clear hb hc
   obtain⟨z,qz⟩:∃z,z=l[k]:=⟨_,rfl⟩
   rw[←qz]at k0 HC HN HY
   clear qz
   cases q:(zbG G) z
   ·have HX:=aA (HN.out (by simp only[q];rfl))
    rw[q]at HC
    clear q HN HY
    go_wp2_with fail
    refine(HC.out _ HB.out).mono ?_;rintro _ w2 ⟨rfl,hb2⟩
    have HB2:=aA (HB.out.trans (hb2.mono HB.out.size))
    clear hb2
    go_wp2
    go_roundw
    case rel=>exact⟨k+1,by omega,by go_num,HX,HB2.out⟩
    case measure=>simp[intOf];omega
   ·have HX:=aA (HY.out q)
    rw[q]at HC
    clear q HN HY
    go_wp2_with fail
    refine(HC.out _ HB.out).mono ?_;rintro _ w2 ⟨rfl,hb2⟩
    have HB2:=aA (HB.out.trans (hb2.mono HB.out.size))
    clear hb2
    go_wp2
    go_ret
    exact⟨k,rfl,by rw[HX.out];simp,HB2.out⟩
  ·obtain rfl:k=l.length:=by omega
   have HX:Hid (l.any (zbG G)=false):=aA (by
    rw[List.any_eq_false]
    intro z hz
    obtain⟨i,hi,rfl⟩:=List.getElem_of_mem hz
    have:=HA.out i hi hi
    simpa using this)
   clear hb
   go_wp2
   go_ret
   exact⟨-1,rfl,by rw[HX.out];rfl,HB.out⟩
theorem zeI (A:Option Addr) (c B:Nat) (l:List Int) (w:World) (G:Gm.Gr) (gb B2:Nat) (a:Array Value) (hin:∀z∈l,Gm.In z) (hg:∀x:World,Below w.heap.size w x→bC x B2 (.agg a) G) (hgb:∀x:World,Below w.heap.size w x→x.heap[gb]?=some (.cells a 26 (0,0))) (hr:RdI w B A l) (hB:B≤w.heap.size) (hlen:(l.length:Int)≤9223372036854775807) :
  Calls Tryz.prog 103 #[.slice A l.length c,.func (Fn.func 104) #[] #[.pointer (some ⟨gb,0,none⟩)]] w fun e w'=>e=.returned (.bool (l.any (zbG G)))∧Below w.heap.size w w':=by
 have HI:=aA (zib A c B l w G gb B2 a hin hg hgb hr hB hlen)
 clear hr hlen hin hg hgb
 go_enter Tryz.func103,Tryz.ntmps103
 go_wp2_with fail
 refine HI.out.mono ?_;rintro _ w2 ⟨n,rfl,hn,hb⟩
 have HN:=aA hn
 have HB:=aA hb
 clear hn hb
 go_wp2
 go_ret
 exact⟨aG HN.out,HB.out⟩
def ruB (G:Gm.Gr) (x:Gm.Rl):Bool:=decide (x.r.length≤6) && !x.r.any (zbG G)&&(if x.p = -1 then !x.r.any isT else isT x.p&&Gm.has G x.p)
theorem zdw (v:Value) (G:Gm.Gr) (B:Nat) (x:Gm.Rl) (A:Option Addr) (c:Nat) (w:World) (hg:bC w B v G) (hr:RdI w B A x.r) (hx:∀z∈x.r,Gm.In z) (hp:Gm.In x.p) (hB:B≤w.heap.size) :
  Calls Tryz.prog 69 #[v,.agg #[.int .i64 x.l,.slice A x.r.length c,.int .i64 x.p]] w fun e w'=>e=.returned (.bool (ruB G x))∧Below w.heap.size w w':=by
 have HG:=aA hg
 obtain⟨AT,cT,AN,cN,AR,cR,rfl,_⟩:=hg
 have HB0:=aA ((One.start w #[.slice AT G.ts.length cT,.slice AN G.ns.length cN,.slice AR G.rs.length cR,.int .i64 G.st]).alloc (.cells #[.int .i64 x.l,.slice A x.r.length c,.int .i64 x.p] 45))
 have HK0:Hid (((w.alloc (.cells #[.slice AT G.ts.length cT,.slice AN G.ns.length cN,.slice AR G.rs.length cR,.int .i64 G.st] 26)).alloc (.cells #[.int .i64 x.l,.slice A x.r.length c,.int .i64 x.p] 45)).heap[w.heap.size+1]?=some (.cells #[.int .i64 x.l,.slice A x.r.length c,.int .i64 x.p] 45 (0,0))):=aA (by
  have:=heap_alloc_new (w.alloc (.cells #[.slice AT G.ts.length cT,.slice AN G.ns.length cN,.slice AR G.rs.length cR,.int .i64 G.st] 26)) (.cells #[.int .i64 x.l,.slice A x.r.length c,.int .i64 x.p] 45)
  simpa using this)
 by_cases h6:6<x.r.length
 ·have HX:Hid (ruB G x=false):=aA (by unfold ruB;rw[decide_eq_false (show ¬x.r.length≤6 by omega)];rfl)
  rw[HX.out]
  clear hr hx hp
  go_enter Tryz.func69,Tryz.ntmps69
  go_wp2
  go_ret
  exact⟨rfl,HB0.out.below⟩
 have HOB:=aA (fun(y:World) (h:One w #[.slice AT G.ts.length cT,.slice AN G.ns.length cN,.slice AR G.rs.length cR,.int .i64 G.st] y)=>(Below.block h w.heap.size (by omega)).trans (heap_alloc_new w _))
 have HCF:=aA (fun(y:World) (h:One w #[.slice AT G.ts.length cT,.slice AN G.ns.length cN,.slice AR G.rs.length cR,.int .i64 G.st] y)=>zeI A c B x.r y G w.heap.size B _ hx (fun z hz=>HG.out.below (h.on hz).below hB) (fun z hz=>HOB.out _ (h.on hz)) (hr.keep fun g o hg=>h.below.cell (p:=⟨g,o,none⟩) (Nat.lt_of_lt_of_le hg hB)) (Nat.le_trans hB h.below.size) (by omega))
 have HCT:=aA (fun(y:World) (h:One w #[.slice AT G.ts.length cT,.slice AN G.ns.length cN,.slice AR G.rs.length cR,.int .i64 G.st] y)=>zdK A c B x.r y (hr.keep fun g o hg=>h.below.cell (p:=⟨g,o,none⟩) (Nat.lt_of_lt_of_le hg hB)) (Nat.le_trans hB h.below.size) (by omega))
 have HIT:=aA (fun y=>zag x.p y)
 have HHS:=aA (fun(y:World) (h:One w #[.slice AT G.ts.length cT,.slice AN G.ns.length cN,.slice AR G.rs.length cR,.int .i64 G.st] y)=>zfa _ G B x.p hp y (HG.out.below h.below hB))
 have HRU:Hid (ruB G x=(!x.r.any (zbG G)&&(if x.p = -1 then !x.r.any isT else isT x.p&&Gm.has G x.p))):=aA (by unfold ruB;rw[decide_eq_true (show x.r.length≤6 by omega)];rfl)
 clear hr hx hp HG
 cases q1:x.r.any (zbG G)
 case true =>
  have HX:Hid (ruB G x=false):=aA (by rw[HRU.out,q1];rfl)
  rw[q1]at HCF
  rw[HX.out]
  clear q1 HRU
  go_enter Tryz.func69,Tryz.ntmps69
  go_wp2_with fail
  refine(HCF.out _ HB0.out).mono ?_;rintro _ w2 ⟨rfl,hb⟩
  have HB2:=aA (HB0.out.on hb)
  clear hb
  go_wp2
  go_ret
  exact⟨rfl,HB2.out.below⟩
 rw[q1]at HCF
 have HR2:Hid (ruB G x=(if x.p = -1 then !x.r.any isT else isT x.p&&Gm.has G x.p)):=aA (by rw[HRU.out,q1];rfl)
 clear q1 HRU
 by_cases h1:x.p = -1
 ·have HX:=aA (HR2.out.trans (if_pos h1))
  have e1:(x.p == -1)=true:=beq_iff_eq.2 h1
  rw[HX.out]
  generalize x.r.any isT=b at *
  clear h1 HIT HHS HR2 HX
  go_enter Tryz.func69,Tryz.ntmps69
  go_wp2_with fail
  refine(HCF.out _ HB0.out).mono ?_;rintro _ w2 ⟨rfl,hb⟩
  have HB2:=aA (HB0.out.on hb)
  have hbb:=(hb.block (w.heap.size+1) (by simp)).trans HK0.out
  have d1:=cell_of_row w2 _ 1 _ _ _ hbb
  have d2:=cell_of_row w2 _ 2 _ _ _ hbb
  have hz:w.heap.size+1<w2.heap.size:=(Array.getElem?_eq_some_iff.1 hbb).1
  clear hb hbb
  go_wp2_with fail
  refine(HCT.out _ HB2.out).mono ?_;rintro _ w3 ⟨rfl,hb⟩
  have HB3:=aA (HB2.out.on hb)
  clear hb
  go_wp2
  go_ret
  exact⟨rfl,HB3.out.below⟩
 ·have HX:=aA (HR2.out.trans (if_neg h1))
  have e1:(x.p == -1)=false:=beq_eq_false_iff_ne.2 h1
  rw[HX.out]
  unfold isT
  clear h1 HCT HR2 HX
  cases q2:decide (0≤x.p)
  ·rw[q2]at HIT
   clear q2 HHS
   go_enter Tryz.func69,Tryz.ntmps69
   go_wp2_with fail
   refine(HCF.out _ HB0.out).mono ?_;rintro _ w2 ⟨rfl,hb⟩
   have HB2:=aA (HB0.out.on hb)
   have hbb:=(hb.block (w.heap.size+1) (by simp)).trans HK0.out
   have d1:=cell_of_row w2 _ 1 _ _ _ hbb
   have d2:=cell_of_row w2 _ 2 _ _ _ hbb
   have hz:w.heap.size+1<w2.heap.size:=(Array.getElem?_eq_some_iff.1 hbb).1
   clear hb hbb
   go_wp2_with fail
   refine(HIT.out _).mono ?_;rintro _ _ ⟨rfl,rfl⟩
   go_wp2
   go_ret
   exact⟨rfl,HB2.out.below⟩
  ·rw[q2]at HIT
   clear q2
   generalize Gm.has G x.p=b at *
   go_enter Tryz.func69,Tryz.ntmps69
   go_wp2_with fail
   refine(HCF.out _ HB0.out).mono ?_;rintro _ w2 ⟨rfl,hb⟩
   have HB2:=aA (HB0.out.on hb)
   have hbb:=(hb.block (w.heap.size+1) (by simp)).trans HK0.out
   have d1:=cell_of_row w2 _ 1 _ _ _ hbb
   have d2:=cell_of_row w2 _ 2 _ _ _ hbb
   have hz:w.heap.size+1<w2.heap.size:=(Array.getElem?_eq_some_iff.1 hbb).1
   have q0:=HB2.out.c 0 _ rfl
   have q1:=HB2.out.c 1 _ rfl
   have q2:=HB2.out.c 2 _ rfl
   have q3:=HB2.out.c 3 _ rfl
   clear hb hbb
   go_wp2_with fail
   refine(HIT.out _).mono ?_;rintro _ w5 ⟨rfl,hw5⟩
   subst hw5
   go_wp2_with fail
   refine(HHS.out _ HB2.out).mono ?_;rintro _ w3 ⟨rfl,hb⟩
   have HB3:=aA (HB2.out.on hb)
   clear hb
   go_wp2
   go_ret
   exact⟨aG (by simp),HB3.out.below⟩
def rrF (G:Gm.Gr):List Gm.Rl→Int→Bool
 | [],n=>n==G.ns.length
 | x::r,n=>if x.l<0∨n<x.l∨ruB G x=false then false else rrF G r (max n (x.l+1))
theorem ziT {G:Gm.Gr} {rs:List Gm.Rl} {k:Nat} (h:k<rs.length) (n:Int):rrF G (rs.drop k) n=if rs[k].l<0∨n<rs[k].l∨ruB G rs[k]=false then false else rrF G (rs.drop (k+1)) (max n (rs[k].l+1)):=by
 rw[List.drop_eq_getElem_cons h,rrF]
theorem zke {G:Gm.Gr} {rs:List Gm.Rl} {k:Nat} (h:rs.length≤k) (n:Int):rrF G (rs.drop k) n=(n==(G.ns.length:Int)):=by
 rw[List.drop_eq_nil_of_le h,rrF]
def rrB (G:Gm.Gr):Bool:=decide (G.rs.length≤40)&&rrF G G.rs 0
theorem zcM (v:Value) (G:Gm.Gr) (B:Nat) (w:World) (hg:bC w B v G) (hf:Gm.Fit G) (hB:B≤w.heap.size) :
  Calls Tryz.prog 37 #[v] w fun e w'=>e=.returned (.bool (rrB G))∧Below w.heap.size w w':=by
 have HG:=aA hg
 obtain⟨AT,cT,AN,cN,AR,cR,rfl,⟨hlT,hmT⟩,⟨hlN,hmN⟩,⟨hlR,hmR⟩,_,_,ht⟩:=hg
 have HT:=aA ht
 have HF:=aA hf
 have HS0:=aA (One.start w #[.slice AT G.ts.length cT,.slice AN G.ns.length cN,.slice AR G.rs.length cR,.int .i64 G.st])
 have hlenN:(G.ns.length:Int)≤9223372036854775807:=by omega
 clear ht hf
 by_cases h40:40<G.rs.length
 ·have HX:Hid (rrB G=false):=aA (by unfold rrB;rw[decide_eq_false (show ¬G.rs.length≤40 by omega)];rfl)
  rw[HX.out]
  go_enter Tryz.func37,Tryz.ntmps37
  go_wp2
  go_ret
  exact⟨rfl,HS0.out.below⟩
 have HRR:Hid (rrB G=rrF G (G.rs.drop 0) 0):=aA (by unfold rrB;rw[decide_eq_true (show G.rs.length≤40 by omega)];rfl)
 go_enter Tryz.func37,Tryz.ntmps37
 go_wp2
 go_loopw [3,13] (fun vt vi wr=>∃(k:Nat) (z:Int),k≤G.rs.length∧vi=.int .i64 k∧vt=.int .i64 z∧(0≤z∧z≤100+k)∧Hid (rrB G=rrF G (G.rs.drop k) z)∧One w #[.slice AT G.ts.length cT,.slice AN G.ns.length cN,.slice AR G.rs.length cR,.int .i64 G.st] wr) (fun _ vi _=>G.rs.length-(intOf vi).toNat)
 case atStart=>exact⟨0,0,Nat.zero_le _,rfl,rfl,by omega,HRR,HS0.out⟩
 case round =>
  obtain⟨k,z,hk,rfl,rfl,hzz,HE,hb⟩:=hrel
  have HB:=aA hb
  have hz:w.heap.size<wr.heap.size:=hb.size
  have hbw:=hb.below
  have q0:=hb.c 0 _ rfl
  have q1:=hb.c 1 _ rfl
  have q2:=hb.c 2 _ rfl
  have q3:=hb.c 3 _ rfl
  clear hb
  by_cases hlt:k<G.rs.length
  ·obtain⟨g,o,rfl,hgb,hc⟩:=HT.out (by omega)
   obtain⟨k0,⟨A',c',k1,_,_,hri⟩,k2⟩:=hc k hlt
   have k0:=(hbw.cell (p:=⟨g,o+k*3,none⟩) (Nat.lt_of_lt_of_le hgb hB)).trans k0
   have k1:=(hbw.cell (p:=⟨g,o+k*3+1,none⟩) (Nat.lt_of_lt_of_le hgb hB)).trans k1
   have k2:=(hbw.cell (p:=⟨g,o+k*3+2,none⟩) (Nat.lt_of_lt_of_le hgb hB)).trans k2
   have hgs:g<wr.heap.size:=by omega
   have hft:=HF.out.r _ (List.getElem_mem hlt)
   have HRU:=aA (fun(y:World) (h:One w #[.slice AT G.ts.length cT,.slice AN G.ns.length cN,.slice (some ⟨g,o,none⟩) G.rs.length cR,.int .i64 G.st] y)=>zdw _ G B G.rs[k] A' c' y (HG.out.below h.below hB) (hri.keep fun g o hg=>h.below.cell (p:=⟨g,o,none⟩) (Nat.lt_of_lt_of_le hg hB)) hft.2.2 hft.2.1 (Nat.le_trans hB h.below.size))
   have HN:=aA (HE.out.trans (ziT hlt z))
   have hil:=hft.1
   unfold Gm.In at hil
   clear hc hbw hft hri
   generalize G.rs[k]=x at *
   by_cases c1:x.l<0
   ·have HX:Hid (rrB G=false):=aA (HN.out.trans (if_pos (.inl c1)))
    go_wp2
    go_ret
    exact⟨aG HX.out.symm,(HB.out.alloc _).below⟩
   have c1':=Int.not_lt.1 c1
   by_cases c2:z<x.l
   ·have HX:Hid (rrB G=false):=aA (HN.out.trans (if_pos (.inr (.inl c2))))
    go_wp2
    go_ret
    exact⟨aG HX.out.symm,(HB.out.alloc _).below⟩
   have c2':=Int.not_lt.1 c2
   cases c3:ruB G x
   ·have HX:Hid (rrB G=false):=aA (HN.out.trans (if_pos (.inr (.inr c3))))
    rw[c3]at HRU
    clear c3 c1 c2
    go_wp2_with fail
    refine(HRU.out _ (HB.out.alloc _)).mono ?_;rintro _ w4 ⟨rfl,hb4⟩
    have HB4:=aA ((HB.out.alloc _).on hb4)
    clear hb4
    go_wp2
    go_ret
    exact⟨aG HX.out.symm,HB4.out.below⟩
   ·have HX:=aA (HN.out.trans (if_neg (by rw[c3];simp;omega)))
    rw[c3]at HRU
    clear c3 c1 c2
    go_wp2_with fail
    refine(HRU.out _ (HB.out.alloc _)).mono ?_;rintro _ w4 ⟨rfl,hb4⟩
    have HB4:=aA ((HB.out.alloc _).on hb4)
    have hbb:=(hb4.block wr.heap.size (by simp)).trans (heap_alloc_new wr _)
    have hz4:wr.heap.size<w4.heap.size:=(Array.getElem?_eq_some_iff.1 hbb).1
    have f0:=cell_of_row w4 _ 0 _ _ _ hbb
    clear hb4 hbb
    go_wp2
    go_roundw
    case rel=>exact⟨k+1,max z (x.l+1),by omega,by go_num,rfl,by omega,HX,HB4.out⟩
    case measure=>simp[intOf];omega
  ·obtain rfl:k=G.rs.length:=by omega
   have HX:=aA (HE.out.trans (zke (Nat.le_refl _) z))
   clear hbw
   go_wp2
   go_ret
   exact⟨aG HX.out.symm,HB.out.below⟩
def zb5 (G:Gm.Gr):Bool:=rnB G&&rlF G.ts [] 0&&rrB G&&decide (0≤G.st)&&decide (G.st<G.ns.length)
theorem zgC (v:Value) (G:Gm.Gr) (B:Nat) (w:World) (hg:bC w B v G) (hf:Gm.Fit G) (hB:B≤w.heap.size) :
  Calls Tryz.prog 19 #[v] w fun e w'=>e=.returned (.bool (zb5 G))∧Below w.heap.size w w':=by
 have HG:=aA hg
 have HF:=aA hf
 obtain⟨AT,cT,AN,cN,AR,cR,rfl,⟨hlT,hmT⟩,⟨hlN,hmN⟩,⟨hlR,hmR⟩,htm,_,_⟩:=hg
 have HS0:=aA (One.start w #[.slice AT G.ts.length cT,.slice AN G.ns.length cN,.slice AR G.rs.length cR,.int .i64 G.st])
 have H1:=aA (fun(x:World) (h:One w #[.slice AT G.ts.length cT,.slice AN G.ns.length cN,.slice AR G.rs.length cR,.int .i64 G.st] x)=>zcN _ G B x (HG.out.below h.below hB) HF.out (Nat.le_trans hB h.below.size))
 have H2:=aA (fun(x:World) (h:One w #[.slice AT G.ts.length cT,.slice AN G.ns.length cN,.slice AR G.rs.length cR,.int .i64 G.st] x)=>zcn AT cT B G.ts x (htm.keep fun g o hg=>h.below.cell (p:=⟨g,o,none⟩) (Nat.lt_of_lt_of_le hg hB)) HF.out.t (Nat.le_trans hB h.below.size) (by omega))
 have H3:=aA (fun(x:World) (h:One w #[.slice AT G.ts.length cT,.slice AN G.ns.length cN,.slice AR G.rs.length cR,.int .i64 G.st] x)=>zcM _ G B x (HG.out.below h.below hB) HF.out (Nat.le_trans hB h.below.size))
 have hlenN:(G.ns.length:Int)≤9223372036854775807:=by omega
 unfold zb5
 clear hf htm HG HF hlT hmT hlN hmN hlR hmR hB
 cases p1:rnB G
 ·rw[p1]at H1
  clear p1 H2 H3
  go_enter Tryz.func19,Tryz.ntmps19
  go_wp2_with fail
  refine(H1.out _ HS0.out).mono ?_;rintro _ w2 ⟨rfl,hb⟩
  have HB2:=aA (HS0.out.on hb)
  clear hb
  go_wp2
  go_ret
  exact⟨rfl,HB2.out.below⟩
 rw[p1]at H1
 clear p1
 cases p2:rlF G.ts [] 0
 ·rw[p2]at H2
  clear p2 H3
  go_enter Tryz.func19,Tryz.ntmps19
  go_wp2_with fail
  refine(H1.out _ HS0.out).mono ?_;rintro _ w2 ⟨rfl,hb⟩
  have HB2:=aA (HS0.out.on hb)
  have q0:=HB2.out.c 0 _ rfl
  have z2:w.heap.size<w2.heap.size:=HB2.out.size
  clear hb
  go_wp2_with fail
  refine(H2.out _ HB2.out).mono ?_;rintro _ w3 ⟨rfl,hb⟩
  have HB3:=aA (HB2.out.on hb)
  clear hb
  go_wp2
  go_ret
  exact⟨rfl,HB3.out.below⟩
 rw[p2]at H2
 clear p2
 cases p3:rrB G
 ·rw[p3]at H3
  clear p3
  go_enter Tryz.func19,Tryz.ntmps19
  go_wp2_with fail
  refine(H1.out _ HS0.out).mono ?_;rintro _ w2 ⟨rfl,hb⟩
  have HB2:=aA (HS0.out.on hb)
  have q0:=HB2.out.c 0 _ rfl
  have z2:w.heap.size<w2.heap.size:=HB2.out.size
  clear hb
  go_wp2_with fail
  refine(H2.out _ HB2.out).mono ?_;rintro _ w3 ⟨rfl,hb⟩
  have HB3:=aA (HB2.out.on hb)
  have r0:=HB3.out.c 0 _ rfl
  have r1:=HB3.out.c 1 _ rfl
  have r2:=HB3.out.c 2 _ rfl
  have r3:=HB3.out.c 3 _ rfl
  have z3:w.heap.size<w3.heap.size:=HB3.out.size
  clear hb
  go_wp2_with fail
  refine(H3.out _ HB3.out).mono ?_;rintro _ w4 ⟨rfl,hb⟩
  have HB4:=aA (HB3.out.on hb)
  clear hb
  go_wp2
  go_ret
  exact⟨rfl,HB4.out.below⟩
 rw[p3]at H3
 clear p3
 by_cases h4:0≤G.st
 ·rw[decide_eq_true h4]
  go_enter Tryz.func19,Tryz.ntmps19
  go_wp2_with fail
  refine(H1.out _ HS0.out).mono ?_;rintro _ w2 ⟨rfl,hb⟩
  have HB2:=aA (HS0.out.on hb)
  have q0:=HB2.out.c 0 _ rfl
  have z2:w.heap.size<w2.heap.size:=HB2.out.size
  clear hb
  go_wp2_with fail
  refine(H2.out _ HB2.out).mono ?_;rintro _ w3 ⟨rfl,hb⟩
  have HB3:=aA (HB2.out.on hb)
  have r0:=HB3.out.c 0 _ rfl
  have r1:=HB3.out.c 1 _ rfl
  have r2:=HB3.out.c 2 _ rfl
  have r3:=HB3.out.c 3 _ rfl
  have z3:w.heap.size<w3.heap.size:=HB3.out.size
  clear hb
  go_wp2_with fail
  refine(H3.out _ HB3.out).mono ?_;rintro _ w4 ⟨rfl,hb⟩
  have HB4:=aA (HB3.out.on hb)
  have s1:=HB4.out.c 1 _ rfl
  have s3:=HB4.out.c 3 _ rfl
  have z4:w.heap.size<w4.heap.size:=HB4.out.size
  clear hb
  go_wp2
  go_ret
  exact⟨aG (by simp),HB4.out.below⟩
 ·rw[decide_eq_false h4]
  have h4':=Int.not_le.1 h4
  clear h4
  go_enter Tryz.func19,Tryz.ntmps19
  go_wp2_with fail
  refine(H1.out _ HS0.out).mono ?_;rintro _ w2 ⟨rfl,hb⟩
  have HB2:=aA (HS0.out.on hb)
  have q0:=HB2.out.c 0 _ rfl
  have z2:w.heap.size<w2.heap.size:=HB2.out.size
  clear hb
  go_wp2_with fail
  refine(H2.out _ HB2.out).mono ?_;rintro _ w3 ⟨rfl,hb⟩
  have HB3:=aA (HB2.out.on hb)
  have r0:=HB3.out.c 0 _ rfl
  have r1:=HB3.out.c 1 _ rfl
  have r2:=HB3.out.c 2 _ rfl
  have r3:=HB3.out.c 3 _ rfl
  have z3:w.heap.size<w3.heap.size:=HB3.out.size
  clear hb
  go_wp2_with fail
  refine(H3.out _ HB3.out).mono ?_;rintro _ w4 ⟨rfl,hb⟩
  have HB4:=aA (HB3.out.on hb)
  have s1:=HB4.out.c 1 _ rfl
  have s3:=HB4.out.c 3 _ rfl
  have z4:w.heap.size<w4.heap.size:=HB4.out.size
  clear hb
  go_wp2
  go_ret
  exact⟨rfl,HB4.out.below⟩
namespace Gm
theorem zeZ:∀(g:Nat) (l:List Int),l.Nodup→(∀x∈l,1≤x∧x≤g)→l.length≤g∧(l.length=g→∀n:Nat,1≤n→n≤g→(n:Int)∈l)
 | 0,l,_,hb=>by
  have:l=[]:=by
   rcases l with _|⟨x,r⟩
   ·rfl
   ·have:=hb x (by simp);omega
  subst this
  exact⟨Nat.le_refl _,fun _ n h1 h2=>by omega⟩
 | g+1,l,hn,hb=>by
  by_cases hm:((g+1:Nat):Int)∈l
  ·have hl:=List.length_erase_of_mem hm
   have hpos:0<l.length:=List.length_pos_of_mem hm
   obtain⟨h1,h2⟩:=zeZ g (l.erase ((g+1:Nat):Int)) (hn.erase _) (fun x hx=>by
    have hx':=(hn.mem_erase_iff).1 hx
    have:=hb x hx'.2
    have:=hx'.1
    omega)
   refine⟨by omega,fun e n q1 q2=>?_⟩
   by_cases hg:n=g+1
   ·subst hg;exact hm
   ·exact List.mem_of_mem_erase (h2 (by omega) n q1 (by omega))
  ·obtain⟨h1,_⟩:=zeZ g l hn (fun x hx=>by
    have:=hb x hx
    have:x≠((g+1:Nat):Int):=fun e=>hm (e▸hx)
    omega)
   exact⟨by omega,fun e=>by omega⟩
structure LvGood (ts:List Tm):Prop where
 a:∀t∈ts,asB t=true
 b:∀t∈ts,∀u∈ts,0<t.lv→t.lv=u.lv→t.wy=u.wy
 c:∀t∈ts,∀n:Nat,1≤n→(n:Int)≤t.lv→∃u∈ts,u.lv=(n:Int)
theorem zdM (t:Tm):asB t=true↔0≤t.lv∧0≤t.wy∧t.wy≤3∧(t.lv=0↔t.wy=0):=by
 unfold asB
 by_cases h0:t.wy=0
 ·rw[if_pos h0]
  simp only[beq_iff_eq]
  omega
 ·rw[if_neg h0]
  by_cases h1:t.wy=1∨t.wy=2∨t.wy=3
  ·rw[if_pos h1]
   simp only[decide_eq_true_eq]
   omega
  ·rw[if_neg h1]
   simp only[Bool.false_eq_true,false_iff]
   omega
structure Inv (pre:List Tm) (m:List (Int×Int)) (g:Int):Prop where
 n:(m.map Prod.fst).Nodup
 f:∀t∈pre,0<t.lv→Mw.asc m t.lv=some t.wy
 r:∀l w,Mw.asc m l=some w→0<l∧∃t∈pre,t.lv=l∧t.wy=w
 a:∀t∈pre,asB t=true
 g0:0≤g
 g1:∀t∈pre,t.lv≤g
 g2:g=0 ∨ ∃t∈pre,t.lv=g
theorem Inv.nil:Inv [] [] 0:=⟨by simp,by simp,fun _ _ h=>by simp[Mw.asc]at h,by simp,Int.le_refl _,by simp,.inl rfl⟩
theorem Inv.key {pre:List Tm} {m:List (Int×Int)} {g:Int} (h:Inv pre m g) {x:Int} (hx:x∈m.map Prod.fst):∃w,Mw.asc m x=some w:=by
 obtain⟨p,hp,rfl⟩:=List.mem_map.1 hx
 exact⟨p.2,Mw.asc_of_mem h.n hp⟩
theorem Inv.next {pre:List Tm} {m:List (Int×Int)} {g:Int} {t:Tm} (h:Inv pre m g) (ha:asB t=true) (hc:¬((Mw.asc m t.lv).isSome=true∧(Mw.asc m t.lv).getD 0≠t.wy)):Inv (pre++[t]) (zeq m t) (max g t.lv):=by
 have hl:=((zdM t).1 ha).1
 have hmem:∀u,u∈pre++[t]↔u∈pre∨u=t:=fun u=>by simp
 have hg0:=h.g0
 have hgg:0≤max g t.lv∧(∀u∈pre++[t],u.lv≤max g t.lv)∧(max g t.lv=0 ∨ ∃u∈pre++[t],u.lv=max g t.lv):=by
  refine⟨by omega,fun u hu=>?_,?_⟩
  ·rcases(hmem u).1 hu with q|rfl
   ·have:=h.g1 u q;omega
   ·omega
  ·by_cases hgt:g≤t.lv
   ·exact .inr ⟨t,(hmem t).2 (.inr rfl),by omega⟩
   ·rcases h.g2 with q|⟨u,hu,e⟩
    ·omega
    ·exact .inr ⟨u,(hmem u).2 (.inl hu),by omega⟩
 have haa:∀u∈pre++[t],asB u=true:=fun u hu=>by
  rcases(hmem u).1 hu with q|rfl
  ·exact h.a u q
  ·exact ha
 unfold zeq
 by_cases hp:0<t.lv
 ·rw[if_pos hp]
  cases hq:Mw.asc m t.lv with
  | none =>
   rw[if_pos rfl]
   refine⟨?_,?_,?_,haa,hgg.1,hgg.2.1,hgg.2.2⟩
   ·rw[List.map_append,List.nodup_append]
    refine⟨h.n,by simp,fun x hx y hy e=>?_⟩
    simp only[List.map_cons,List.map_nil,List.mem_singleton]at hy
    obtain⟨w,hw⟩:=h.key hx
    rw[e,hy,hq]at hw;cases hw
   ·intro u hu h0
    rw[Mw.asc_snoc hq]
    rcases(hmem u).1 hu with q|rfl
    ·have:=h.f u q h0
     by_cases e:t.lv=u.lv
     ·rw[←e,hq]at this;cases this
     ·rw[if_neg e];exact this
    ·rw[if_pos rfl]
   ·intro l w hw
    rw[Mw.asc_snoc hq]at hw
    by_cases e:t.lv=l
    ·rw[if_pos e]at hw
     injection hw with hw
     exact⟨by omega,t,(hmem t).2 (.inr rfl),e,hw⟩
    ·rw[if_neg e]at hw
     obtain⟨h1,u,hu,h2⟩:=h.r l w hw
     exact⟨h1,u,(hmem u).2 (.inl hu),h2⟩
  | some w =>
   rw[if_neg (by simp)]
   have hwt:w=t.wy:=Classical.byContradiction fun e=>hc (by rw[hq];exact⟨rfl,e⟩)
   refine⟨h.n,?_,?_,haa,hgg.1,hgg.2.1,hgg.2.2⟩
   ·intro u hu h0
    rcases(hmem u).1 hu with q|rfl
    ·exact h.f u q h0
    ·rw[hq,hwt]
   ·intro l w hw
    obtain⟨h1,u,hu,h2⟩:=h.r l w hw
    exact⟨h1,u,(hmem u).2 (.inl hu),h2⟩
 ·rw[if_neg hp]
  refine⟨h.n,?_,?_,haa,hgg.1,hgg.2.1,hgg.2.2⟩
  ·intro u hu h0
   rcases(hmem u).1 hu with q|rfl
   ·exact h.f u q h0
   ·exact absurd h0 hp
  ·intro l w hw
   obtain⟨h1,u,hu,h2⟩:=h.r l w hw
   exact⟨h1,u,(hmem u).2 (.inl hu),h2⟩
theorem zhv:∀(r pre:List Tm) (m:List (Int×Int)) (g:Int),Inv pre m g→(rlF r m g=true↔LvGood (pre++r))
 | [],pre,m,g,h=>by
  rw[List.append_nil,rlF,beq_iff_eq]
  have hin:∀x∈m.map Prod.fst,1≤x∧x≤(g.toNat:Int):=fun x hx=>by
   obtain⟨w,hw⟩:=h.key hx
   obtain⟨h1,u,hu,h2,_⟩:=h.r x w hw
   have:=h.g1 u hu
   have:=h.g0
   omega
  obtain⟨p1,p2⟩:=zeZ g.toNat (m.map Prod.fst) h.n hin
  rw[List.length_map]at p1 p2
  have hg0:=h.g0
  constructor
  ·intro e
   refine⟨h.a,fun t ht u hu h0 e'=>?_,fun t ht n q1 q2=>?_⟩
   ·have a1:=h.f t ht h0
    have a2:=h.f u hu (by omega)
    rw[e',a2]at a1
    injection a1 with a1
    exact a1.symm
   ·have:=h.g1 t ht
    have hk:=p2 (by omega) n q1 (by omega)
    obtain⟨w,hw⟩:=h.key hk
    obtain⟨_,u,hu,h2,_⟩:=h.r _ w hw
    exact⟨u,hu,h2⟩
  ·intro hgd
   rcases h.g2 with q|⟨t,ht,e⟩
   ·omega
   ·have:g.toNat≤(m.map Prod.fst).length:=by
     have hh:∀n:Nat,1≤n→n≤g.toNat→∃t∈m.map (fun p=>(⟨[],p.1,0⟩:Tm)),t.lv=(n:Int):=fun n q1 q2=>by
      obtain⟨u,hu,e2⟩:=hgd.c t ht n q1 (by omega)
      have:=h.f u hu (by omega)
      rw[e2]at this
      exact⟨_,List.mem_map.2 ⟨_,Mw.asc_mem this,rfl⟩,rfl⟩
     have:=few g.toNat _ hh
     simpa using this
    rw[List.length_map]at this
    omega
 | t::r,pre,m,g,h=>by
  rw[rlF]
  by_cases ha:asB t=false
  ·rw[if_pos ha]
   simp only[Bool.false_eq_true,false_iff]
   intro q
   have:=q.a t (by simp)
   rw[ha]at this;cases this
  ·rw[if_neg ha]
   have ha:asB t=true:=by simpa using ha
   by_cases hc:(Mw.asc m t.lv).isSome=true∧(Mw.asc m t.lv).getD 0≠t.wy
   ·rw[if_pos hc]
    simp only[Bool.false_eq_true,false_iff]
    intro q
    cases hq:Mw.asc m t.lv with
    | none=>rw[hq]at hc;simp at hc
    | some w =>
     rw[hq]at hc
     obtain⟨h1,u,hu,h2,h3⟩:=h.r _ w hq
     have:=q.b u (by simp[hu]) t (by simp) (by omega) h2
     exact hc.2 (by simp only[Option.getD_some];omega)
   ·rw[if_neg hc,zhv r (pre++[t]) _ _ (h.next ha hc),List.append_assoc,List.singleton_append]
theorem zdF {n:Int}:∀(ts:List Tm) (way:Int),(∀t∈ts,t.lv=n→t.wy≠0)→lev n ts way=true→(way≠0 ∨ ∃t∈ts,t.lv=n)∧∃w,(way=0∨way=w)∧∀t∈ts,t.lv=n→t.wy=w
 | [],way,_,h=>by
  rw[lev]at h
  have:way≠0:=by simpa using h
  exact⟨.inl this,way,.inr rfl,by simp⟩
 | t::r,way,hn,h=>by
  rw[lev]at h
  by_cases h1:t.lv≠n
  ·rw[if_pos h1]at h
   obtain⟨a,w,b,c⟩:=zdF r way (fun u hu=>hn u (by simp[hu])) h
   refine⟨?_,w,b,fun u hu e=>?_⟩
   ·rcases a with a|⟨u,hu,e⟩
    ·exact .inl a
    ·exact .inr ⟨u,by simp[hu],e⟩
   ·rcases List.mem_cons.1 hu with rfl|hu
    ·exact absurd e h1
    ·exact c u hu e
  ·rw[if_neg h1]at h
   have h1:t.lv=n:=Classical.byContradiction h1
   by_cases h2:way≠0∧way≠t.wy
   ·rw[if_pos h2]at h;cases h
   ·rw[if_neg h2]at h
    obtain⟨a,w,b,c⟩:=zdF r t.wy (fun u hu=>hn u (by simp[hu])) h
    have hw:t.wy=w:=by
     rcases b with b|b
     ·exact absurd b (hn t (by simp) h1)
     ·exact b
    refine⟨.inr ⟨t,by simp,h1⟩,w,?_,fun u hu e=>?_⟩
    ·by_cases hw0:way=0
     ·exact .inl hw0
     ·refine .inr (Classical.byContradiction fun q=>h2 ⟨hw0,fun e=>q (e.trans hw)⟩)
    ·rcases List.mem_cons.1 hu with rfl|hu
     ·exact hw
     ·exact c u hu e
def zlq (ts:List Tm):Prop:=∀t∈ts,0≤t.lv∧t.lv≤24∧0≤t.wy∧t.wy≤3∧(t.lv=0↔t.wy=0)∧∀n:Nat,n<t.lv.toNat→lev ((n+1:Nat):Int) ts 0=true
theorem zjO {ts:List Tm} (hl:ts.length≤24):LvGood ts↔zlq ts:=by
 constructor
 ·intro h t ht
  have ha:=(zdM t).1 (h.a t ht)
  have h24:t.lv.toNat≤ts.length:=few t.lv.toNat ts fun n q1 q2=>h.c t ht n q1 (by omega)
  refine⟨ha.1,by omega,ha.2.1,ha.2.2.1,ha.2.2.2,fun n hn=>?_⟩
  obtain⟨u,hu,e⟩:=h.c t ht (n+1) (by omega) (by omega)
  have hau:=(zdM u).1 (h.a u hu)
  exact zb4 (w:=u.wy) (by omega) ts 0 (fun x hx ex=>(h.b u hu x hx (by omega) (by omega)).symm) (.inl rfl) (.inr ⟨u,hu,e⟩)
 ·intro h
  refine⟨fun t ht=>(zdM t).2 ?_,fun t ht u hu h0 e=>?_,fun t ht n q1 q2=>?_⟩
  ·obtain⟨h1,h2,h3,h4,h5,_⟩:=h t ht
   exact⟨h1,h3,h4,h5⟩
  ·obtain⟨h1,h2,h3,h4,h5,h6⟩:=h t ht
   have hl:=h6 (t.lv.toNat-1) (by omega)
   have hn:((t.lv.toNat-1+1:Nat):Int)=t.lv:=by omega
   rw[hn]at hl
   obtain⟨_,w,_,c⟩:=zdF ts 0 (fun x hx ex q=>by have:=(h x hx).2.2.2.2.1;omega) hl
   rw[c t ht rfl,c u hu e.symm]
  ·obtain⟨h1,h2,h3,h4,h5,h6⟩:=h t ht
   have hl:=h6 (n-1) (by omega)
   have hn:((n-1+1:Nat):Int)=(n:Int):=by omega
   rw[hn]at hl
   obtain⟨a,_⟩:=zdF ts 0 (fun x hx ex q=>by have:=(h x hx).2.2.2.2.1;omega) hl
   rcases a with a|a
   ·exact absurd rfl a
   ·exact a
theorem zc5 {l:List (List Int)} (h:∀i (hi:i<l.length),find l l[i]=(i:Int)):l.Nodup:=by
 rw[List.nodup_iff_pairwise_ne,List.pairwise_iff_getElem]
 intro i j hi hj hij e
 have h1:=h i hi
 have h2:=h j hj
 rw[e,h2]at h1
 omega
theorem zg4 (ts:List Tm):terms ts=true↔ts.length≤24∧(∀t∈ts,named t.nm=true)∧(names ts).Nodup∧zlq ts:=by
 unfold terms
 rw[Bool.and_eq_true,decide_eq_true_eq,decide_eq_true_eq]
 have hnl:(names ts).length=ts.length:=za7 ts
 have hni:∀i (h:i<ts.length),(names ts)[i]'(by omega)=ts[i].nm:=fun i h=>by simp[names]
 constructor
 ·rintro⟨h1,h2⟩
  have h3:∀i (h:i<ts.length),named ts[i].nm=true∧find (names ts) ts[i].nm=(i:Int)∧0≤ts[i].lv∧ts[i].lv≤24∧0≤ts[i].wy∧ts[i].wy≤3∧(ts[i].lv=0↔ts[i].wy=0)∧∀n:Nat,n<ts[i].lv.toNat→lev ((n+1:Nat):Int) ts 0=true:=fun i h=>by
   have:=h2 i h
   unfold term1 at this
   simp only[Bool.and_eq_true,decide_eq_true_eq,beq_iff_eq]at this
   obtain⟨⟨⟨⟨⟨⟨⟨a,b⟩,c⟩,d⟩,e⟩,f⟩,g⟩,k⟩:=this
   refine⟨a,b,c,d,e,f,?_,k⟩
   rw[Bool.eq_iff_iff,beq_iff_eq,beq_iff_eq]at g
   exact g
  refine⟨h1,fun t ht=>?_,zc5 fun i hi=>?_,fun t ht=>?_⟩
  ·obtain⟨i,hi,rfl⟩:=List.getElem_of_mem ht;exact(h3 i hi).1
  ·rw[hni i (by omega)];exact(h3 i (by omega)).2.1
  ·obtain⟨i,hi,rfl⟩:=List.getElem_of_mem ht;exact(h3 i hi).2.2
 ·rintro⟨h1,h2,h3,h4⟩
  refine⟨h1,fun i hi=>?_⟩
  unfold term1
  simp only[Bool.and_eq_true,decide_eq_true_eq,beq_iff_eq]
  obtain⟨c,d,e,f,g,k⟩:=h4 _ (List.getElem_mem hi)
  refine⟨⟨⟨⟨⟨⟨⟨h2 _ (List.getElem_mem hi),?_⟩,c⟩,d⟩,e⟩,f⟩,?_⟩,k⟩
  ·rw[←hni i hi];exact zaN h3 i (by omega)
  ·rw[Bool.eq_iff_iff,beq_iff_eq,beq_iff_eq];exact g
theorem zja (G:Gr):nons G=true↔1≤G.ns.length∧G.ns.length≤16∧(∀s∈G.ns,T.isName s=true)∧G.ns.Nodup∧∀s∈G.ns,s ∉ names G.ts:=by
 unfold nons
 rw[Bool.and_eq_true,Bool.and_eq_true,decide_eq_true_eq,decide_eq_true_eq,decide_eq_true_eq]
 constructor
 ·rintro⟨⟨h1,h2⟩,h3⟩
  have h4:∀i (h:i<G.ns.length),T.isName G.ns[i]=true∧find G.ns G.ns[i]=(i:Int)∧find (names G.ts) G.ns[i]<0:=fun i h=>by
   have:=h3 i h
   unfold non1 non term at this
   simp only[Bool.and_eq_true,decide_eq_true_eq,beq_iff_eq]at this
   exact⟨this.1.1,this.1.2,this.2⟩
  refine⟨h1,h2,fun s hs=>?_,zc5 fun i hi=>(h4 i hi).2.1,fun s hs=>?_⟩
  ·obtain⟨i,hi,rfl⟩:=List.getElem_of_mem hs;exact(h4 i hi).1
  ·obtain⟨i,hi,rfl⟩:=List.getElem_of_mem hs;exact find_none.1 (h4 i hi).2.2
 ·rintro⟨h1,h2,h3,h4,h5⟩
  refine⟨⟨h1,h2⟩,fun i hi=>?_⟩
  unfold non1 non term
  simp only[Bool.and_eq_true,decide_eq_true_eq,beq_iff_eq]
  exact⟨⟨h3 _ (List.getElem_mem hi),zaN h4 i hi⟩,find_none.2 (h5 _ (List.getElem_mem hi))⟩
theorem zkW (G:Gr):rnB G=true↔G.ts.length≤24∧1≤G.ns.length∧G.ns.length≤16∧(∀t∈G.ts,named t.nm=true)∧(∀s∈G.ns,T.isName s=true)∧(names G.ts++G.ns).Nodup:=by
 unfold rnB nmL
 simp only[Bool.and_eq_true,decide_eq_true_eq,List.all_eq_true,List.length_map]
 have h:=(zlh [] (names G.ts++G.ns) (by simp)).2
 simp only[List.length_nil,Nat.zero_add,List.nil_append,List.length_append,za7]at h
 rw[h]
 constructor
 ·rintro⟨⟨⟨⟨⟨a,b⟩,c⟩,d⟩,e⟩,f⟩;exact⟨a,b,c,d,e,f⟩
 ·rintro⟨a,b,c,d,e,f⟩;exact⟨⟨⟨⟨⟨a,b⟩,c⟩,d⟩,e⟩,f⟩
theorem zlz (G:Gr) (x:Rl):ruB G x=rule G x:=by
 rw[Bool.eq_iff_iff]
 unfold ruB rule
 have hn:x.r.any (zbG G)=false ↔ ∀z∈x.r,has G z=true:=by
  rw[List.any_eq_false]
  unfold zbG
  constructor
  ·intro h z hz;have:=h z hz;simpa using this
  ·intro h z hz;rw[h z hz];simp
 have ht:x.r.any isT=false ↔ ∀z∈x.r,¬0≤z:=by
  rw[List.any_eq_false]
  unfold isT
  constructor
  ·intro h z hz;simpa using h z hz
  ·intro h z hz;simpa using h z hz
 simp only[Bool.and_eq_true,decide_eq_true_eq,Bool.not_eq_true',List.all_eq_true,hn]
 by_cases hp:x.p = -1
 ·rw[if_pos hp]
  simp only[Bool.not_eq_true',ht,hp,beq_self_eq_true,Bool.and_true,decide_eq_false_iff_not]
  constructor
  ·rintro⟨⟨a,b⟩,c⟩;exact⟨⟨⟨a,by omega⟩,by omega⟩,fun z hz=>⟨b z hz,c z hz⟩⟩
  ·rintro⟨⟨⟨a,_⟩,_⟩,b⟩;exact⟨⟨a,fun z hz=>(b z hz).1⟩,fun z hz=>(b z hz).2⟩
 ·rw[if_neg hp]
  have hp':(x.p == -1)=false:=by simpa using hp
  simp only[hp',Bool.and_false,and_true,Bool.and_eq_true]
  unfold isT has
  rw[decide_eq_true_eq]
  constructor
  ·rintro⟨⟨a,b⟩,c,d⟩
   rw[if_pos c,decide_eq_true_eq]at d
   exact⟨⟨⟨a,by omega⟩,d⟩,b⟩
  ·rintro⟨⟨⟨a,b⟩,c⟩,d⟩
   have h0:0≤x.p:=by omega
   exact⟨⟨a,d⟩,h0,by rw[if_pos h0,decide_eq_true_eq];exact c⟩
theorem zkV (G:Gr):∀(rs:List Rl) (top:Int),rrF G rs (top+1)=rules G rs top
 | [],top=>by
  rw[rrF,rules,Bool.eq_iff_iff,beq_iff_eq,beq_iff_eq]
  omega
 | r::rs,top=>by
  rw[rrF,rules,zlz]
  by_cases h:r.l<0∨top+1<r.l∨rule G r=false
  ·rw[if_pos h,if_pos h]
  ·rw[if_neg h,if_neg h]
   rw[←zkV G rs]
   congr 1
   by_cases h2:top<r.l
   ·rw[if_pos h2];omega
   ·rw[if_neg h2];omega
theorem right_eq (G:Gr):zb5 G=right G:=by
 rw[Bool.eq_iff_iff]
 unfold zb5 right rrB
 have hrr:=zkV G G.rs (-1)
 rw[show(-1:Int)+1=0 from rfl]at hrr
 simp only[Bool.and_eq_true,decide_eq_true_eq,hrr,zkW,zg4,zja]
 have hlv:=zhv G.ts [] [] 0 Inv.nil
 rw[List.nil_append]at hlv
 rw[hlv,List.nodup_append]
 constructor
 ·rintro⟨⟨⟨⟨⟨a,b,c,d,e,f1,f2,f3⟩,g⟩,h,k⟩,l⟩,m⟩
  refine⟨⟨⟨⟨⟨⟨⟨a,d,f1,(zjO a).1 g⟩,b,c,e,f2,fun s hs q=>f3 s q s hs rfl⟩,?_⟩,h⟩,l⟩,m⟩,k⟩
  rcases hz:G.rs with _|⟨x,r⟩
  ·rw[hz,rules,beq_iff_eq]at k;omega
  ·simp
 ·rintro⟨⟨⟨⟨⟨⟨⟨a,d,f1,g⟩,b,c,e,f2,f3⟩,_⟩,h⟩,l⟩,m⟩,k⟩
  exact⟨⟨⟨⟨⟨a,b,c,d,e,f1,f2,fun s hs q hq ee=>f3 q hq (ee▸hs)⟩,(zjO a).2 g⟩,h,k⟩,l⟩,m⟩
end Gm
theorem zgD (v:Value) (G:Gm.Gr) (B:Nat) (w:World) (hg:bC w B v G) (hf:Gm.Fit G) (hB:B≤w.heap.size) :
  Calls Tryz.prog 19 #[v] w fun e w'=>e=.returned (.bool (Gm.right G))∧Below w.heap.size w w':=by
 rw[←Gm.right_eq]
 exact zgC v G B w hg hf hB
namespace Sh
open Gm Y
def pr (G:Gr):List Int×Int:=if right G=true then(if 4000<(text G).length then([],5) else(text G,0)) else([],1)
theorem zh1 (ws:List (List Int)) (h:∀w∈ws,w.length≤20):(joinW ws).length≤21*ws.length:=by
 induction ws with
 | nil=>simp[joinW]
 | cons w r ih=>cases r with
  | nil=>have:=h w (by simp);simp[joinW];omega
  | cons v r =>
   have h1:=h w (by simp)
   have h2:=ih (fun x hx=>h x (by simp[hx]))
   simp only[joinW,List.length_append,List.length_cons]at h2 ⊢
   omega
theorem flat_len (ls:List (List (List Int))) (h:∀l∈ls,l.length≤27∧∀w∈l,w.length≤20):(flat ls).length≤600*ls.length:=by
 induction ls with
 | nil=>simp[flat]
 | cons l r ih =>
  have h1:=zh1 l (h l (by simp)).2
  have h3:=(h l (by simp)).1
  have h2:=ih (fun x hx=>h x (by simp[hx]))
  unfold flat at h2 ⊢
  rw[List.flatMap_cons,List.length_append]
  unfold zaw at h2 ⊢
  simp only[List.length_append,List.length_cons,List.length_nil]at h2 ⊢
  omega
theorem zbv {w:List Int} (h:named w=true):w.length≤20:=by
 unfold named at h
 rw[Bool.or_eq_true]at h
 rcases h with h|h
 ·exact(Sh.name_pos h).2
 ·have:=T.isLit_len h;omega
theorem name_len {G:Gr} (hg:Rt G) (z:Int) (hz:has G z=true):(name G z).length≤20:=by
 unfold name
 rw[if_pos hz]
 unfold has at hz
 by_cases h0:0≤z
 ·rw[if_pos h0]at hz ⊢
  have hz:z<G.ts.length:=by simpa using hz
  rw[zaM _ (by omega)]
  exact zbv (hg.tn z.toNat (by omega))
 ·rw[if_neg h0]at hz ⊢
  have hz:-1-z<G.ns.length:=by simpa using hz
  rw[getD_at _ _ _ (by omega)]
  exact(Sh.name_pos (hg.nn (-1-z).toNat (by omega)).1).2
theorem lines_len {G:Gr} (hg:Rt G):(lines G).length≤90∧∀l∈lines G,l≠[]∧l.length≤27∧∀w∈l,w.length≤20:=by
 have hTop:top G.ts≤24:=by
  rcases top_has G.ts with e|⟨t,hm,e⟩
  ·omega
  ·rw[←e];exact(hg.tl t hm).2.1
 refine⟨?_,fun l hl=>⟨(zfM hg l hl).1,?_⟩⟩
 ·unfold lines
  have h1:=hg.t24
  have h2:=hg.r1
  simp only[List.length_append,List.length_map,List.length_cons,List.length_nil]
  unfold tokens levels
  rw[List.length_map,List.length_map,List.length_range]
  omega
 unfold lines at hl
 simp only[List.mem_append,List.mem_singleton]at hl
 rcases hl with(((hl|hl)|hl)|hl)|hl
 ·obtain⟨t,ht,rfl⟩:=List.mem_map.1 hl
  obtain⟨i,hi,rfl⟩:=List.getElem_of_mem ht
  refine⟨by simp,fun w hw=>?_⟩
  rcases List.mem_cons.1 hw with rfl|hw
  ·decide
  ·rw[List.mem_singleton.1 hw];exact zbv (hg.tn i hi)
 ·unfold levels at hl
  obtain⟨i,hi,rfl⟩:=List.mem_map.1 hl
  refine⟨Nat.le_trans (level_len _ _) (by have:=hg.t24;omega),?_⟩
  obtain⟨t,r,e,hw,hall⟩:=level_some hg i (by simpa using hi)
  unfold level
  rw[e]
  intro w hw'
  rcases List.mem_cons.1 hw' with rfl|hw'
  ·rcases hw with q|q|q <;> rw[q] <;> decide
  ·obtain⟨s,hs,rfl⟩:=List.mem_map.1 hw'
   have:s∈onLev G.ts ((i+1:Nat):Int):=by rw[e];exact hs
   obtain⟨j,hj,rfl⟩:=List.getElem_of_mem (List.mem_filter.1 this).1
   exact zbv (hg.tn j hj)
 ·subst hl
  have hs:=hg.s0
  refine⟨by simp,fun w hw=>?_⟩
  rcases List.mem_cons.1 hw with rfl|hw
  ·decide
  ·rw[List.mem_singleton.1 hw,getD_at _ _ _ (by omega)]
   exact(Sh.name_pos (hg.nn _ (by omega)).1).2
 ·subst hl
  exact⟨by simp,fun w hw=>by rw[List.mem_singleton.1 hw];decide⟩
 ·obtain⟨r,hr,rfl⟩:=List.mem_map.1 hl
  obtain⟨l0,l1,hru⟩:=(rules_le G G.rs _ hg.rr).2 r hr
  obtain⟨a1,a2,a3,a4,a5⟩:=rule_parts hru
  refine⟨by unfold rule;split <;> simp <;> omega,fun w hw=>?_⟩
  unfold rule at hw
  simp only[List.mem_cons,List.mem_append]at hw
  rcases hw with rfl|rfl|(hw|hw)|hw
  ·rw[getD_at _ _ _ (by omega)]
   exact(Sh.name_pos (hg.nn _ (by omega)).1).2
  ·decide
  ·obtain⟨z,hz,rfl⟩:=List.mem_map.1 hw
   exact name_len hg z (a4 z hz)
  ·split at hw
   ·cases hw
   ·rename_i hne
    simp only[List.mem_cons,List.not_mem_nil,or_false]at hw
    rcases hw with rfl|rfl
    ·decide
    ·exact name_len hg r.p (by unfold has;rw[if_pos (a5 hne)];simpa using a3)
  ·simp only[List.not_mem_nil,or_false]at hw
   rw[hw];decide
end Sh
theorem zat (v:Value) (G:Gm.Gr) (B:Nat) (w:World) (hg:bC w B v G) (hf:Gm.Fit G) (hB:B≤w.heap.size) :
  Calls Tryz.prog 9 #[v] w fun e w'=>e=.returned (.tuple #[.string (K.str (Sh.pr G).1),.int .i64 (Sh.pr G).2])∧Below w.heap.size w w':=by
 have HG:=aA hg
 obtain⟨AT,cT,AN,cN,AR,cR,rfl,_,_,_,_,_,_⟩:=hg
 have HRI:=aA (fun(x:World) (h:Below w.heap.size w x)=>zgD _ G B x (HG.out.below h hB) hf (Nat.le_trans hB h.size))
 have HS0:=aA (One.start w #[.slice AT G.ts.length cT,.slice AN G.ns.length cN,.slice AR G.rs.length cR,.int .i64 G.st])
 have HS0b:=aA HS0.out.below
 by_cases hr:Gm.right G=true
 ·have hrt:=Gm.rt_of hr
  have hll:=Sh.lines_len hrt
  have hfl:=Sh.flat_len (Sh.lines G) (fun l hl=>(hll.2 l hl).2)
  have HLI:=aA (fun(x:World) (h:Below w.heap.size w x)=>zhT _ G B x (HG.out.below h hB) hf hr (Nat.le_trans hB h.size))
  have HJO:=aA (fun(x:World) (base:Nat) (A:Option Addr) (n c:Nat) (ho:bH x base (.slice A n c) (Sh.lines G))=>zgx A base n c (Sh.lines G) x ho (fun l hl=>(hll.2 l hl).1) (by omega) (fun l hl=>by have:=(hll.2 l hl).2.1;omega) (by omega))
  rw[hr]at HRI
  have HPR:Hid (Sh.pr G=if 4000<(Sh.text G).length then([],5) else(Sh.text G,0)):=aA (by unfold Sh.pr;rw[if_pos hr])
  have HTX:Hid (Sh.flat (Sh.lines G)=Sh.text G):=aA rfl
  have hsz:(K.str (Sh.text G)).size=(Sh.text G).length:=by show(K.bytes _).toArray.size=_;rw[List.size_toArray,K.bytes_len]
  rw[HPR.out]
  rw[HTX.out]at HJO
  clear hrt hll hfl hf hr
  obtain⟨n,hn⟩:∃n,n=(Sh.text G).length:=⟨_,rfl⟩
  rw[←hn]at hsz ⊢
  generalize Sh.text G=tx at *
  generalize Sh.lines G=li at *
  by_cases h4:4000<n
  ·rw[if_pos h4]
   have h4':(n:Int) > 4000:=by omega
   go_enter Tryz.func9,Tryz.ntmps9
   go_wp2_with fail
   refine(HRI.out _ HS0b.out).mono ?_;rintro _ w1 ⟨rfl,hb1⟩
   have hs1:=HS0.out.on hb1
   have HB1:=aA hs1.below
   have q0:=hs1.c 0 _ rfl
   have q1:=hs1.c 1 _ rfl
   have q2:=hs1.c 2 _ rfl
   have q3:=hs1.c 3 _ rfl
   have hz1:w.heap.size<w1.heap.size:=by have:=hs1.size;omega
   clear hb1 hs1
   go_wp2_with fail
   refine(HLI.out _ HB1.out).mono ?_;rintro _ w2 ⟨v2,rfl,ho2,hb2⟩
   have HB2:=aA (HB1.out.trans (hb2.mono HB1.out.size))
   obtain⟨A2,c2,rfl,_,_⟩:=ho2.form
   have HJ2:=aA (HJO.out _ _ _ _ _ ho2)
   clear ho2 hb2
   go_wp2_with fail
   refine HJ2.out.mono ?_;rintro _ w3 ⟨rfl,hb3⟩
   have HB3:=aA (HB2.out.trans (hb3.mono HB2.out.size))
   clear hb3
   go_wp2
   go_ret2
   exact⟨rfl,HB3.out⟩
  ·rw[if_neg h4]
   have h4':¬(n:Int) > 4000:=by omega
   go_enter Tryz.func9,Tryz.ntmps9
   go_wp2_with fail
   refine(HRI.out _ HS0b.out).mono ?_;rintro _ w1 ⟨rfl,hb1⟩
   have hs1:=HS0.out.on hb1
   have HB1:=aA hs1.below
   have q0:=hs1.c 0 _ rfl
   have q1:=hs1.c 1 _ rfl
   have q2:=hs1.c 2 _ rfl
   have q3:=hs1.c 3 _ rfl
   have hz1:w.heap.size<w1.heap.size:=by have:=hs1.size;omega
   clear hb1 hs1
   go_wp2_with fail
   refine(HLI.out _ HB1.out).mono ?_;rintro _ w2 ⟨v2,rfl,ho2,hb2⟩
   have HB2:=aA (HB1.out.trans (hb2.mono HB1.out.size))
   obtain⟨A2,c2,rfl,_,_⟩:=ho2.form
   have HJ2:=aA (HJO.out _ _ _ _ _ ho2)
   clear ho2 hb2
   go_wp2_with fail
   refine HJ2.out.mono ?_;rintro _ w3 ⟨rfl,hb3⟩
   have HB3:=aA (HB2.out.trans (hb3.mono HB2.out.size))
   clear hb3
   go_wp2
   go_ret2
   exact⟨rfl,HB3.out⟩
 ·rw[Bool.eq_false_iff.2 hr]at HRI
  have HPR:Hid (Sh.pr G=([],1)):=aA (by unfold Sh.pr;rw[if_neg hr])
  rw[HPR.out]
  clear hr hf
  go_enter Tryz.func9,Tryz.ntmps9
  go_wp2_with fail
  refine(HRI.out _ HS0b.out).mono ?_;rintro _ w1 ⟨rfl,hb1⟩
  have HB1:=aA (HS0.out.on hb1).below
  clear hb1
  go_wp2
  go_ret2
  exact⟨rfl,HB1.out⟩
namespace K
def P:Nat:=3988292384
def clk (c:Nat):Nat:=c / 2 ^^^ (if c % 2=1 then P else 0)
def clkN:Nat→Nat→Nat
 | 0,c=>c
 | n+1,c=>clkN n (clk c)
def top:Nat:=4294967295
def run (c:Nat) (l:List Int):Nat:=l.foldl (fun c z=>clkN 8 (c ^^^ z.toNat)) c
def more (s:Nat) (l:List Int):Nat:=top-run (top-s) l
def sum (l:List Int):Nat:=more 0 l
theorem zfo (a b:Nat):(a ^^^ b) / 2=a / 2 ^^^ b / 2:=by
 apply Nat.eq_of_testBit_eq;intro i
 rw[Nat.testBit_xor,←Nat.testBit_succ,←Nat.testBit_succ,←Nat.testBit_succ,Nat.testBit_xor]
theorem zfn (a b:Nat):(a ^^^ b) % 2=(a % 2+b % 2) % 2:=by
 have h:=Nat.testBit_xor a b 0
 simp only[Nat.testBit_zero]at h
 rcases Nat.mod_two_eq_zero_or_one a with ha|ha <;> rcases Nat.mod_two_eq_zero_or_one b with hb|hb <;> rcases Nat.mod_two_eq_zero_or_one (a ^^^ b) with hc|hc <;> simp[ha,hb,hc]at h ⊢
theorem zkE (a b:Nat):clk (a ^^^ b)=clk a ^^^ clk b:=by
 unfold clk
 rw[zfo,zfn]
 have e:∀x y z:Nat,(x ^^^ y) ^^^ z=(x ^^^ z) ^^^ y:=fun x y z=>by rw[Nat.xor_assoc,Nat.xor_comm y z,←Nat.xor_assoc]
 rcases Nat.mod_two_eq_zero_or_one a with ha|ha <;> rcases Nat.mod_two_eq_zero_or_one b with hb|hb <;> rw[ha,hb] <;> simp
 ·rw[Nat.xor_assoc]
 ·rw[e]
 ·rw[←Nat.xor_assoc,e (a / 2) P (b / 2),Nat.xor_assoc _ P P,Nat.xor_self,Nat.xor_zero]
theorem zfV:∀(n a b:Nat),clkN n (a ^^^ b)=clkN n a ^^^ clkN n b
 | 0,_,_=>rfl
 | n+1,a,b=>by show clkN n (clk (a ^^^ b))=_;rw[zkE,zfV n];rfl
theorem clkN_add:∀(m n c:Nat),clkN (m+n) c=clkN n (clkN m c)
 | 0,n,c=>by rw[Nat.zero_add];rfl
 | m+1,n,c=>by rw[show m+1+n=(m+n)+1 by omega];exact clkN_add m n (clk c)
theorem zgK (c:Nat):clk (2*c)=c:=by unfold clk;rw[show 2*c / 2=c by omega,if_neg (by omega),Nat.xor_zero]
theorem zdj:∀(n c:Nat),clkN n (2 ^ n*c)=c
 | 0,c=>by show 2 ^ 0*c=c;omega
 | n+1,c=>by
  show clkN n (clk (2 ^ (n+1)*c))=c
  rw[Nat.pow_succ,show 2 ^ n*2*c=2*(2 ^ n*c) by rw[Nat.mul_comm (2 ^ n) 2,Nat.mul_assoc],zgK,zdj n]
theorem xor_lt {a b:Nat} (ha:a<4294967296) (hb:b<4294967296):a ^^^ b<4294967296:=by
 have:=Nat.xor_lt_two_pow (n:=32) (x:=a) (y:=b) (by omega) (by omega);omega
theorem zll {c:Nat} (h:c<4294967296):clk c<4294967296:=by
 unfold clk
 refine xor_lt (by omega) ?_
 split
 ·unfold P;omega
 ·omega
theorem clkN_lt:∀(n:Nat) {c:Nat},c<4294967296→clkN n c<4294967296
 | 0,_,h=>h
 | n+1,_,h=>clkN_lt n (zll h)
theorem bit_step (c x:Nat):(if c % 2≠x % 2 then c / 2 ^^^ P else c / 2) ^^^ x / 2=clk (c ^^^ x):=by
 unfold clk
 rw[zfo,zfn]
 have e:∀x y z:Nat,(x ^^^ y) ^^^ z=(x ^^^ z) ^^^ y:=fun x y z=>by rw[Nat.xor_assoc,Nat.xor_comm y z,←Nat.xor_assoc]
 rcases Nat.mod_two_eq_zero_or_one c with hc|hc <;> rcases Nat.mod_two_eq_zero_or_one x with hx|hx <;> rw[hc,hx] <;> simp
 ·rw[e]
 ·rw[e]
theorem run_lt (l:List Int) (h:Bytes l):∀ {c:Nat},c<4294967296→run c l<4294967296:=by
 induction l with
 | nil=>intro c hc;exact hc
 | cons z r ih =>
  intro c hc
  have hz:=h.hd
  exact ih h.tl (clkN_lt 8 (xor_lt hc (by omega)))
theorem zh0 (z n:Nat) (h:z<16):z+16*n=z ^^^ 16*n:=by
 have:=Nat.two_pow_add_eq_or_of_lt (i:=4) (b:=z) (by omega) n
 rw[show(2:Nat) ^ 4=16 from rfl]at this
 rw[Nat.add_comm,this]
 apply Nat.eq_of_testBit_eq;intro i
 rw[Nat.testBit_or,Nat.testBit_xor]
 by_cases hi:i<4
 ·rw[show 16*n=2 ^ 4*n from rfl,Nat.mul_comm (2 ^ 4),Nat.testBit_mul_two_pow]
  have:¬4≤i:=by omega
  simp[this]
 ·have:z.testBit i=false:=Nat.testBit_lt_two_pow (Nat.lt_of_lt_of_le (show z<2 ^ 4 by omega) (Nat.pow_le_pow_right (by decide) (by omega)))
  rw[this];simp
theorem top_sub {c:Nat} (h:c<4294967296):top-c=top ^^^ c:=by
 have:=Nat.xor_comm top c
 rw[this]
 have e:=Nat.testBit_two_pow_sub_succ (n:=32) (x:=c) (by omega)
 apply Nat.eq_of_testBit_eq;intro i
 rw[show top-c=2 ^ 32-(c+1) by unfold top;omega,e,Nat.testBit_xor,show top=2 ^ 32-1 from rfl,Nat.testBit_two_pow_sub_one]
 by_cases hi:i<32
 ·simp[hi]
 ·have:c.testBit i=false:=Nat.testBit_lt_two_pow (Nat.lt_of_lt_of_le (show c<2 ^ 32 by omega) (Nat.pow_le_pow_right (by decide) (by omega)))
  simp[hi,this]
end K
namespace K
def fours:List Nat:=[0,498536548,997073096,651767980,1994146192,1802195444,1303535960,1342533948,3988292384,4027552580,3604390888,3412177804,2607071920,2262029012,2685067896,3183342108]
theorem zjo:∀i:Fin 16,fours.getD i.1 0=clkN 4 i.1:=by decide +kernel
theorem four_step (s:Nat):s / 16 ^^^ fours.getD (s % 16) 0=clkN 4 s:=by
 rw[zjo ⟨s % 16,by omega⟩]
 have h:=zh0 (s % 16) (s / 16) (by omega)
 have e:s=s % 16 ^^^ 16*(s / 16):=by rw[←h];omega
 conv=>rhs;rw[e]
 rw[zfV,show 16*(s / 16)=2 ^ 4*(s / 16) from rfl,zdj,Nat.xor_comm]
theorem byte_step (c z:Nat):clkN 4 (clkN 4 (c ^^^ z))=clkN 8 (c ^^^ z):=(clkN_add 4 4 _).symm
theorem run_snoc (c:Nat) (l:List Int) (z:Int):run c (l++[z])=clkN 8 (run c l ^^^ z.toNat):=by unfold run;rw[List.foldl_append];rfl
theorem fours_lt:∀i:Fin 16,fours.getD i.1 0<4294967296:=by decide +kernel
end K
def za1 (w:World):Prop:=Lib.TabIs Tryz.prog w "gerund/crc.fours" .u32 (K.fours.map Int.ofNat)
theorem za1.below {w w':World} (h:za1 w) (hb:Below w.heap.size w w'):za1 w':=by
 unfold za1 Lib.TabIs at *
 have hg:Tryz.prog.globalNamed "gerund/crc.fours" = some 0:=by kernel_rfl
 refine var?_below hb hg ?_ h
 have h':=h
 unfold World.var? at h'
 rw[hg]at h'
 simp only[Option.bind_some]at h'
 rcases Nat.lt_or_ge 0 w.heap.size with hl|hl
 ·exact hl
 ·rw[Array.getElem?_eq_none hl]at h';simp at h'
theorem zgE (k i:Nat) (hi:i<16) (h2:K.fours.getD i 0=k):((K.fours.map Int.ofNat).map fun z=>Value.int .u32 z)[i]?=some (.int .u32 (k:Int)):=by
 have hl:i<K.fours.length:=hi
 rw[List.getD,List.getElem?_eq_getElem hl]at h2
 simp only[Option.getD_some]at h2
 rw[List.getElem?_map,List.getElem?_map,List.getElem?_eq_getElem hl,h2]
 rfl
theorem za1.cell {w:World} (h:za1 w) (i:Nat) (hi:i<16):w.cell? ⟨0,i,none⟩=some (.int .u32 ((K.fours.getD i 0:Nat):Int)):=by
 have hg:Tryz.prog.globalNamed "gerund/crc.fours" = some 0:=by kernel_rfl
 rw[World.var?_cell hg h,List.getElem?_toArray]
 exact zgE _ i hi rfl
theorem zhL (s:Nat) (h:s<4294967296):bits .xor .u32 IntKind.u32.max (s:Int)=((K.top-s:Nat):Int):=by
 have:=u32_xor_nat 4294967295 s (by omega) h
 rw[show(4294967295:Nat)=K.top from rfl,←K.top_sub h]at this
 exact this
theorem shr4 (x:Nat):(x:Int) / 16=((x / 16:Nat):Int):=by omega
theorem zk4 (x:Nat):(x:Int) % 16=((x % 16:Nat):Int):=by omega
theorem zjc (s:Nat) (A:Option Addr) (c B:Nat) (l:List Int) (w:World) (hs:s<4294967296) (hr:RdB w B A l) (hl:K.Bytes l) (hn:l.length≤9223372036854775807) (ht:za1 w) :
  Calls Tryz.prog 47 #[.int .u32 s,.slice A l.length c] w fun e w'=>e=.returned (.int .u32 (K.more s l))∧w'=w:=by
 have E0:=aA (zhL s hs)
 go_enter Tryz.func47,Tryz.ntmps47
 go_wp2
 go_loop [12,5] (fun vi vs=>∃(k:Nat),k≤l.length∧vi=.int .i64 k∧vs=.int .u32 (K.run (K.top-s) (l.take k))) (fun vi _=>l.length-(intOf vi).toNat)
 case atStart=>exact⟨0,by omega,rfl,by rw[E0.out];rfl⟩
 case round =>
  obtain⟨k,hk,rfl,rfl⟩:=hrel
  by_cases hlt:k<l.length
  ·obtain⟨g,o,rfl,_,hc⟩:=hr (by omega)
   have hcell:=hc k hlt
   have hz:=hl.getD k
   have hst:=aA (show K.clkN 4 (K.clkN 4 (K.run (K.top-s) (l.take k) ^^^ (l.getD k 0).toNat))=K.run (K.top-s) (l.take (k+1)) by rw[L.take_snoc l k hlt,K.run_snoc,K.byte_step])
   have hlt1:=K.run_lt (l.take k) (hl.take k) (c:=K.top-s) (by unfold K.top;omega)
   generalize l.getD k 0=z at *
   generalize K.run (K.top-s) (l.take k)=r at *
   obtain⟨b,rfl⟩:=Int.eq_ofNat_of_zero_le hz.1
   rw[Int.toNat_natCast]at hst
   have hb:b<256:=by omega
   clear hc hz
   have e1:=u32_xor_nat r b hlt1 (by omega)
   have hx:=K.xor_lt hlt1 (show b<4294967296 by omega)
   generalize r ^^^ b=x at *
   have q1:=aA (shr4 x)
   have m1:=aA (zk4 x)
   have c1:=ht.cell (x % 16) (by omega)
   have f1:=K.fours_lt ⟨x % 16,by omega⟩
   have e2:=u32_xor_nat (x / 16) (K.fours.getD (x % 16) 0) (by omega) f1
   rw[K.four_step]at e2
   have hy:=K.clkN_lt 4 hx
   generalize K.clkN 4 x=y at *
   have q2:=aA (shr4 y)
   have m2:=aA (zk4 y)
   have c2:=ht.cell (y % 16) (by omega)
   have f2:=K.fours_lt ⟨y % 16,by omega⟩
   have e3:=u32_xor_nat (y / 16) (K.fours.getD (y % 16) 0) (by omega) f2
   rw[K.four_step]at e3
   simp only at f1 f2
   generalize K.fours.getD (x % 16) 0=v1 at *
   generalize K.fours.getD (y % 16) 0=v2 at *
   have i1:x % 16<16:=by omega
   have i2:y % 16<16:=by omega
   generalize x % 16=j1 at *
   generalize y % 16=j2 at *
   generalize x / 16=p1 at *
   generalize y / 16=p2 at *
   go_wp2_with (first|simp only[q1.out,m1.out]|simp only[q1.out]|simp only[m1.out]|simp only[e2]|simp only[q2.out,m2.out]|simp only[q2.out]|simp only[m2.out]|simp only[e3])
   go_round
   case rel=>exact⟨k+1,by omega,by go_num,by rw[hst.out]⟩
   case measure=>simp[intOf];omega
  ·obtain rfl:k=l.length:=by omega
   rw[List.take_length]
   have hlt1:=K.run_lt l hl (c:=K.top-s) (by unfold K.top;omega)
   have E1:=aA (zhL _ hlt1)
   go_wp2
   go_ret
   exact⟨zah E1.out,rfl⟩
theorem zj6 (A:Option Addr) (c B:Nat) (l:List Int) (w:World) (hr:RdB w B A l) (hl:K.Bytes l) (hn:l.length≤9223372036854775807) (ht:za1 w) :
  Calls Tryz.prog 25 #[.slice A l.length c] w fun e w'=>e=.returned (.int .u32 (K.sum l))∧w'=w:=by
 have H:=aA (show Calls Tryz.prog 47 #[.int .u32 0,.slice A l.length c] w _ from zjc 0 A c B l w (by omega) hr hl hn ht)
 clear hr hl hn ht
 go_enter Tryz.func25,Tryz.ntmps25
 go_wp2_with fail
 refine H.out.mono ?_;rintro _ _ ⟨rfl,rfl⟩
 go_wp2
 go_ret
 exact⟨rfl,rfl⟩
theorem K.clkN_succ (k c:Nat):K.clkN (k+1) c=K.clk (K.clkN k c):=K.clkN_add k 1 c
theorem K.bit_like {c x:Nat} (h:c % 2=x % 2):c / 2 ^^^ x / 2=K.clk (c ^^^ x):=by have:=K.bit_step c x;rwa [if_neg (by simpa using h)]at this
theorem K.bit_unlike {c x:Nat} (h:c % 2≠x % 2):(c / 2 ^^^ K.P) ^^^ x / 2=K.clk (c ^^^ x):=by have:=K.bit_step c x;rwa [if_pos h]at this
theorem zhq (s:Nat) (A:Option Addr) (c B:Nat) (l:List Int) (w:World) (hs:s<4294967296) (hr:RdB w B A l) (hl:K.Bytes l) (hn:l.length≤9223372036854775807) :
  Calls Tryz.prog 34 #[.int .u32 s,.slice A l.length c] w fun e w'=>e=.returned (.int .u32 (K.more s l))∧w'=w:=by
 go_enter Tryz.func34,Tryz.ntmps34
 go_wp2
 go_loop [6,5] (fun vi vs=>∃(k:Nat),k≤l.length∧vi=.int .i64 k∧vs=.int .u32 (K.run (K.top-s) (l.take k))) (fun vi _=>l.length-(intOf vi).toNat)
 case atStart=>exact⟨0,by omega,rfl,congrArg (Value.int .u32) (show(4294967295:Int)-(s:Int)=((K.top-s:Nat):Int) by unfold K.top;omega)⟩
 case round =>
  obtain⟨k,hk,rfl,rfl⟩:=hrel
  by_cases hlt:k<l.length
  ·obtain⟨g,o,rfl,_,hc⟩:=hr (by omega)
   have hcell:=hc k hlt
   have hz:=hl.getD k
   have hst:=aA (show K.clkN 8 (K.run (K.top-s) (l.take k) ^^^ (l.getD k 0).toNat)=K.run (K.top-s) (l.take (k+1)) by rw[L.take_snoc l k hlt,K.run_snoc])
   have hlt1:=K.run_lt (l.take k) (hl.take k) (c:=K.top-s) (by unfold K.top;omega)
   generalize l.getD k 0=z at *
   generalize K.run (K.top-s) (l.take k)=r at *
   obtain⟨b,rfl⟩:=Int.eq_ofNat_of_zero_le hz.1
   rw[Int.toNat_natCast]at hst
   have hb:b<256:=by omega
   clear hc hz
   go_wp2
   go_loop [8,5,7] (fun vi vs vx=>∃(i c x:Nat),i≤8∧vi=.int .i64 i∧vs=.int .u32 c∧vx=.int .u8 x∧c<4294967296∧x=b / 2 ^ i∧c ^^^ x=K.clkN i (r ^^^ b)) (fun vi _ _=>8-(intOf vi).toNat)
   case atStart=>exact⟨0,r,b,by omega,rfl,rfl,rfl,hlt1,by simp,rfl⟩
   case round =>
    obtain⟨i,d,x,hi,rfl,rfl,rfl,hd,hx,hxc⟩:=hrel
    by_cases hi8:i<8
    ·have hx2:=aA (show x / 2=b / 2 ^ (i+1) by rw[hx,Nat.div_div_eq_div_mul,Nat.pow_succ])
     have hx256:x<256:=by rw[hx];exact Nat.lt_of_le_of_lt (Nat.div_le_self _ _) hb
     have hn:=aA (K.clkN_succ i (r ^^^ b))
     have HXC:=aA hxc
     have HDT:=aA (show d / 2<4294967296 by omega)
     clear hx hxc
     by_cases hp:d % 2=x % 2
     ·have hq:=aA (K.bit_like hp)
      have hbo:((d:Int) % 2 != (x:Int) % 2)=false:=by rw[bne_eq_false_iff_eq];omega
      have hie:(d:Int) % 2=(x:Int) % 2:=by omega
      go_wp2
      go_round
      case rel=>exact⟨i+1,d / 2,x / 2,by omega,by go_num,by go_num,by go_num,HDT.out,hx2.out,by rw[hq.out,HXC.out,hn.out]⟩
      case measure=>simp[intOf];omega
     ·have hq:=aA (K.bit_unlike hp)
      have hbo:((d:Int) % 2 != (x:Int) % 2)=true:=by rw[bne_iff_ne];omega
      have hie:¬(d:Int) % 2=(x:Int) % 2:=by omega
      have hxr:=u32_xor_nat (d / 2) K.P (by omega) (by unfold K.P;omega)
      rw[show((d / 2:Nat):Int)=(d:Int) / 2 by omega,show((K.P:Nat):Int)=3988292384 from rfl]at hxr
      have hxl:=aA (K.xor_lt (show d / 2<4294967296 by omega) (show K.P<4294967296 by unfold K.P;omega))
      go_wp2
      go_round
      case rel=>exact⟨i+1,d / 2 ^^^ K.P,x / 2,by omega,by go_num,by first|rfl|rw[hxr],by go_num,hxl.out,hx2.out,by rw[hq.out,HXC.out,hn.out]⟩
      case measure=>simp[intOf];omega
    ·obtain rfl:i=8:=by omega
     have hx0:x=0:=by rw[hx];omega
     subst hx0
     rw[Nat.xor_zero,hst.out]at hxc
     subst hxc
     go_wp2
     go_round
     case rel=>exact⟨k+1,by omega,by go_num,rfl⟩
     case measure=>simp[intOf];omega
  ·obtain rfl:k=l.length:=by omega
   rw[List.take_length]
   have hlt1:=K.run_lt l hl (c:=K.top-s) (by unfold K.top;omega)
   go_wp2
   go_ret
   exact⟨zah (show(4294967295:Int)-(K.run (K.top-s) l:Nat)=((K.top-K.run (K.top-s) l:Nat):Int) by unfold K.top at *;omega),rfl⟩
theorem zfx (A:Option Addr) (c B:Nat) (l:List Int) (w:World) (hr:RdB w B A l) (hl:K.Bytes l) (hn:l.length≤9223372036854775807) :
  Calls Tryz.prog 17 #[.slice A l.length c] w fun e w'=>e=.returned (.int .u32 (K.sum l))∧w'=w:=by
 have H:=aA (show Calls Tryz.prog 34 #[.int .u32 0,.slice A l.length c] w _ from zhq 0 A c B l w (by omega) hr hl hn)
 clear hr hl hn
 go_enter Tryz.func17,Tryz.ntmps17
 go_wp2_with fail
 refine H.out.mono ?_;rintro _ _ ⟨rfl,rfl⟩
 go_wp2
 go_ret
 exact⟨rfl,rfl⟩
namespace Sh
open Gm Y
theorem zhU {G:Gr} (hg:Rt G) (P:List Int→Prop) (hc:P wToken∧P wLeft∧P wRight∧P wNon∧P wStart∧P wPrec∧P wMark∧P wColon∧P wSemi) (ht:∀t∈G.ts,P t.nm) (hn:∀s∈G.ns,P s):∀l∈lines G,∀w∈l,P w:=by
 obtain⟨c1,c2,c3,c4,c5,c6,c7,c8,c9⟩:=hc
 have hname:∀z,has G z=true→P (name G z):=by
  intro z hz
  unfold name
  rw[if_pos hz]
  unfold has at hz
  by_cases h0:0≤z
  ·rw[if_pos h0]at hz ⊢
   have hz:z<G.ts.length:=by simpa using hz
   rw[zaM _ (by omega)]
   exact ht _ (List.getElem_mem _)
  ·rw[if_neg h0]at hz ⊢
   have hz:-1-z<G.ns.length:=by simpa using hz
   rw[getD_at _ _ _ (by omega)]
   exact hn _ (List.getElem_mem _)
 intro l hl w hw
 unfold lines at hl
 simp only[List.mem_append,List.mem_singleton]at hl
 rcases hl with(((hl|hl)|hl)|hl)|hl
 ·obtain⟨t,hm,rfl⟩:=List.mem_map.1 hl
  rcases List.mem_cons.1 hw with rfl|hw
  ·exact c1
  ·rw[List.mem_singleton.1 hw];exact ht t hm
 ·unfold levels at hl
  obtain⟨i,hi,rfl⟩:=List.mem_map.1 hl
  obtain⟨t,r,e,hwy,hall⟩:=level_some hg i (by simpa using hi)
  unfold level at hw
  rw[e]at hw
  rcases List.mem_cons.1 hw with rfl|hw'
  ·rcases hwy with q|q|q <;> rw[q]
   ·exact c2
   ·exact c3
   ·exact c4
  ·obtain⟨s,hs,rfl⟩:=List.mem_map.1 hw'
   have:s∈onLev G.ts ((i+1:Nat):Int):=by rw[e];exact hs
   exact ht s (List.mem_filter.1 this).1
 ·subst hl
  have hs:=hg.s0
  rcases List.mem_cons.1 hw with rfl|hw
  ·exact c5
  ·rw[List.mem_singleton.1 hw,getD_at _ _ _ (by omega)]
   exact hn _ (List.getElem_mem _)
 ·subst hl
  rw[List.mem_singleton.1 hw];exact c7
 ·obtain⟨r,hr,rfl⟩:=List.mem_map.1 hl
  obtain⟨l0,l1,hru⟩:=(rules_le G G.rs _ hg.rr).2 r hr
  obtain⟨a1,a2,a3,a4,a5⟩:=rule_parts hru
  unfold rule at hw
  simp only[List.mem_cons,List.mem_append]at hw
  rcases hw with rfl|rfl|(hw|hw)|hw
  ·rw[getD_at _ _ _ (by omega)]
   exact hn _ (List.getElem_mem _)
  ·exact c8
  ·obtain⟨z,hz,rfl⟩:=List.mem_map.1 hw
   exact hname z (a4 z hz)
  ·split at hw
   ·cases hw
   ·rename_i hne
    simp only[List.mem_cons,List.not_mem_nil,or_false]at hw
    rcases hw with rfl|rfl
    ·exact c6
    ·exact hname r.p (by unfold has;rw[if_pos (a5 hne)];simpa using a3)
  ·simp only[List.not_mem_nil,or_false]at hw
   rw[hw];exact c9
theorem ze9 (ws:List (List Int)) (h:∀w∈ws,K.Bytes w):K.Bytes (joinW ws):=by
 induction ws with
 | nil=>exact K.Bytes.nil
 | cons w r ih=>cases r with
  | nil=>exact h w (by simp)
  | cons v r =>
   intro z hz
   simp only[joinW]at hz
   rcases List.mem_append.1 hz with q|q
   ·exact h w (by simp) z q
   ·rcases List.mem_cons.1 q with rfl|q
    ·omega
    ·exact ih (fun x hx=>h x (by simp[hx])) z q
theorem zf3 {G:Gr} (hg:Rt G) (hf:Fit G):K.Bytes (text G):=by
 have hb:=zhU hg K.Bytes (by refine⟨?_,?_,?_,?_,?_,?_,?_,?_,?_⟩ <;> (unfold K.Bytes;decide)) (fun t ht=>(hf.t t ht).1.1) (fun s hs=>(hf.n s hs).1)
 intro z hz
 unfold text flat at hz
 obtain⟨l,hl,hz⟩:=List.mem_flatMap.1 hz
 unfold zaw at hz
 rcases List.mem_append.1 hz with q|q
 ·exact ze9 l (hb l hl) z q
 ·rw[List.mem_singleton.1 q];omega
theorem pr_bytes {G:Gr} (hf:Fit G):K.Bytes (pr G).1:=by
 unfold pr
 split
 ·rename_i h
  split
  ·exact K.Bytes.nil
  ·exact zf3 (rt_of h) hf
 ·exact K.Bytes.nil
theorem pr_len (G:Gr):(pr G).1.length≤4000:=by
 unfold pr
 split
 ·split
  ·simp
  ·simp only;omega
 ·simp
def dg (G:Gr):Nat:=if(pr G).2=0 then K.sum (pr G).1 else 0
end Sh
theorem zbJ (v:Value) (G:Gm.Gr) (B:Nat) (w:World) (hg:bC w B v G) (hf:Gm.Fit G) (hB:B≤w.heap.size) (ht:za1 w) :
  Calls Tryz.prog 11 #[v] w fun e w'=>e=.returned (.tuple #[.int .u32 (Sh.dg G:Nat),.int .i64 (Sh.pr G).2])∧Below w.heap.size w w':=by
 have HG:=aA hg
 obtain⟨AT,cT,AN,cN,AR,cR,rfl,_,_,_,_,_,_⟩:=hg
 have HPR:=aA (fun(x:World) (h:Below w.heap.size w x)=>zat _ G B x (HG.out.below h hB) hf (Nat.le_trans hB h.size))
 have HS0:=aA (One.start w #[.slice AT G.ts.length cT,.slice AN G.ns.length cN,.slice AR G.rs.length cR,.int .i64 G.st]).below
 have hb:=Sh.pr_bytes hf
 have hl:=Sh.pr_len G
 have HT:=aA ht
 have hsz:=K.str_size (Sh.pr G).1
 unfold Sh.dg
 by_cases h0:(Sh.pr G).2=0
 ·rw[h0]at HPR
  rw[if_pos h0,h0]
  generalize (Sh.pr G).1=l at *
  have C1:=fun w=>zaz w l
  have P1:=aA (fun(x:World) (h:Below w.heap.size w x)=>zj6 (some ⟨x.heap.size,0,none⟩) (zfw x l) _ l (x.drew.alloc (ziD x l)) (za4 x l hb).1 hb (by omega) ((HT.out.below h).below (za4 x l hb).2.1))
  have B1:=aA (fun(x:World)=>(za4 x l hb).2.1)
  clear h0 hf ht hb
  go_enter Tryz.func11,Tryz.ntmps11
  go_wp2_with fail
  refine(HPR.out _ HS0.out).mono ?_;rintro _ w1 ⟨rfl,hb1⟩
  have HB1:=aA (HS0.out.trans (hb1.mono HS0.out.size))
  clear hb1
  go_wp2_with fail
  refine(P1.out _ HB1.out).mono ?_;rintro _ w' ⟨rfl,rfl⟩
  go_wp2
  go_ret2
  exact⟨rfl,HB1.out.trans ((B1.out w1).mono HB1.out.size)⟩
 ·rw[if_neg h0]
  have h0':((Sh.pr G).2 != 0)=true:=by simpa using h0
  generalize (Sh.pr G).2=er at *
  clear h0 hf ht hb
  go_enter Tryz.func11,Tryz.ntmps11
  go_wp2_with fail
  refine(HPR.out _ HS0.out).mono ?_;rintro _ w1 ⟨rfl,hb1⟩
  have HB1:=aA (HS0.out.trans (hb1.mono HS0.out.size))
  clear hb1
  go_wp2
  go_ret2
  exact⟨rfl,HB1.out⟩
def et1:List Int:=[37,37,32,115,32,58,32,39,97,39,32,115,32,124,32,59]
def et2:List Int:=[37,114,105,103,104,116,32,85,32,37,108,101,102,116,32,39,45,39,32,37,37,32,101,32,58,32,39,45,39,32,101,32,37,112,114,101,99,32,85,32,124,32,101,32,39,45,39,32,101,32,59]
def lt1:List Int:=[37,116,111,107,101,110,32,39,97,39,10,37,115,116,97,114,116,32,115,10,37,37,10,115,32,58,32,39,97,39,32,115,32,59,10,115,32,58,32,59,10]
def lt2:List Int:=[37,116,111,107,101,110,32,85,10,37,116,111,107,101,110,32,39,45,39,10,37,114,105,103,104,116,32,85,10,37,108,101,102,116,32,39,45,39,10,37,115,116,97,114,116,32,101,10,37,37,10,101,32,58,32,39,45,39,32,101,32,37,112,114,101,99,32,85,32,59,10,101,32,58,32,101,32,39,45,39,32,101,32,59,10]
def gt1:Gm.Gr:=⟨[⟨[39,97,39],0,0⟩],[[115]],[⟨0,[0,-1],0⟩,⟨0,[],-1⟩],0⟩
def gt2:Gm.Gr:=⟨[⟨[85],1,2⟩,⟨[39,45,39],2,1⟩],[[101]],[⟨0,[1,-1],0⟩,⟨0,[-1,1,-1],1⟩],0⟩
def gt0:Gm.Gr:=⟨[],[],[],0⟩
theorem gre1:gr9 et1=some gt1:=by kernel_rfl
theorem gre2:gr9 et2=some gt2:=by kernel_rfl
theorem zlA:Sh.pr gt1=(lt1,0):=by kernel_rfl
theorem prt2:Sh.pr gt2=(lt2,0):=by kernel_rfl
theorem prt0:Sh.pr gt0=([],1):=by kernel_rfl
theorem dgt1:Sh.dg gt1=K.sum lt1:=by unfold Sh.dg;rw[zlA];rfl
theorem zhb:K.str lt1=⟨#[37,116,111,107,101,110,32,39,97,39,10,37,115,116,97,114,116,32,115,10,37,37,10,115,32,58,32,39,97,39,32,115,32,59,10,115,32,58,32,59,10]⟩:=by decide +kernel
theorem zj8:K.str lt2=⟨([37,116,111,107,101,110,32,85,10,37,116,111,107,101,110,32,39,45,39,10,37,114,105,103,104,116,32,85,10,37,108,101,102,116,32,39,45,39,10,37,115,116,97,114,116,32,101,10].append [37,37,10,101,32,58,32,39,45,39,32,101,32,37,112,114,101,99,32,85,32,59,10,101,32,58,32,101,32,39,45,39,32,101,32,59,10]).toArray⟩:=by decide +kernel
theorem zid:Gm.Fit gt0:=⟨by simp[gt0],by simp[gt0],by simp[gt0],by unfold Gm.In;simp[gt0]⟩
theorem zjT (w:World) (B:Nat):bC w B (.agg #[.slice none 0 0,.slice none 0 0,.slice none 0 0,.int .i64 0]) gt0:=⟨none,0,none,0,none,0,rfl,by simp[gt0],by simp[gt0],by simp[gt0],fun h=>absurd rfl h,fun h=>absurd rfl h,fun h=>absurd rfl h⟩
theorem zgM (w:World):(Instr.build 26 #[]).run Tryz.prog w=.ok (.agg #[.slice none 0 0,.slice none 0 0,.slice none 0 0,.int .i64 0]) w:=run_build w 26 _ _ (by kernel_rfl)
theorem zaD (w:World) (hf4:za1 w):Calls Tryz.prog 6 #[] w fun e w'=>e=.returned (.bool true)∧Below w.heap.size w w':=by
 have T1:=aA (zcy et1 gt1 (by decide) (by decide) gre1 w w.heap.size rfl)
 have T2:=aA (fun(w1:World) (n:Nat) (hw:n=w1.heap.size)=>zcy et2 gt2 (by decide) (by decide) gre2 w1 n hw)
 have V1:=aA (fun w:World=>show(convert 40 40 (.slice (some ⟨w.heap.size,0,none⟩) 16 16)).run Tryz.prog (w.alloc (.cells #[.int .u8 37,.int .u8 37,.int .u8 32,.int .u8 115,.int .u8 32,.int .u8 58,.int .u8 32,.int .u8 39,.int .u8 97,.int .u8 39,.int .u8 32,.int .u8 115,.int .u8 32,.int .u8 124,.int .u8 32,.int .u8 59] 5))=.ok (.slice (some ⟨w.heap.size,0,none⟩) 16 16) (w.alloc (zaY et1)) from zb3 w et1 16 16)
 have V2:=aA (fun w:World=>show(convert 40 40 (.slice (some ⟨w.heap.size,0,none⟩) 51 51)).run Tryz.prog (w.alloc (.cells #[.int .u8 37,.int .u8 114,.int .u8 105,.int .u8 103,.int .u8 104,.int .u8 116,.int .u8 32,.int .u8 85,.int .u8 32,.int .u8 37,.int .u8 108,.int .u8 101,.int .u8 102,.int .u8 116,.int .u8 32,.int .u8 39,.int .u8 45,.int .u8 39,.int .u8 32,.int .u8 37,.int .u8 37,.int .u8 32,.int .u8 101,.int .u8 32,.int .u8 58,.int .u8 32,.int .u8 39,.int .u8 45,.int .u8 39,.int .u8 32,.int .u8 101,.int .u8 32,.int .u8 37,.int .u8 112,.int .u8 114,.int .u8 101,.int .u8 99,.int .u8 32,.int .u8 85,.int .u8 32,.int .u8 124,.int .u8 32,.int .u8 101,.int .u8 32,.int .u8 39,.int .u8 45,.int .u8 39,.int .u8 32,.int .u8 101,.int .u8 32,.int .u8 59] 5))=.ok (.slice (some ⟨w.heap.size,0,none⟩) 51 51) (w.alloc (zaY et2)) from zb3 w et2 51 51)
 have U1:=V1.out w
 have HF4:=aA hf4
 have hbg:=fun w=>zgM w
 have hs1:∀(x:World) (o:Obj),(x.alloc o).heap.size=x.heap.size+1:=fun x o=>by simp
 have HBA:=aA (fun(x:World) (h:Below w.heap.size w x) (o:Obj)=>h.alloc h.size o)
 have hl1:et1.length=16:=rfl
 have hl2:et2.length=51:=rfl
 rw[hl1]at T1
 rw[hl2]at T2
 clear hf4 V1 hl1 hl2
 go_enter Tryz.func6,Tryz.ntmps6
 go_wp2_with fail
 refine T1.out.mono ?_;rintro _ w1 ⟨⟨g,rfl,hg1,hft1⟩,hb1⟩
 have HG1:=aA hg1
 have HFT1:=aA hft1
 have HB1:=aA hb1
 obtain⟨AT1,cT1,AN1,cN1,AR1,cR1,rfl,_,_,_,_,_,_⟩:=hg1
 clear hb1 U1 T1 hft1
 have U2:=fun(o:Obj)=>V2.out (w1.alloc o)
 simp only[hs1]at U2
 clear V2
 go_wp2_with fail
 refine(T2.out _ _ (hs1 _ _).symm).mono ?_;rintro _ w2 ⟨⟨g,rfl,hg2,hft2⟩,hb2⟩
 have HB2:=aA ((HBA.out _ HB1.out _).trans (hb2.mono (HBA.out _ HB1.out _).size))
 have HX2:=aA hb2
 have HG2:=aA hg2
 have HFT2:=aA hft2
 obtain⟨AT2,cT2,AN2,cN2,AR2,cR2,rfl,_,_,_,_,_,_⟩:=hg2
 clear U2 hb2 T2 hft2
 go_upto_region 3 with fail
 have x1:=(HX2.out.block w1.heap.size (by simp)).trans (heap_alloc_new w1 _)
 have HBz:=aA ((Below.refl w2.heap.size w2).alloc (Nat.le_refl _) (.cells #[.slice AT2 gt2.ts.length cT2,.slice AN2 gt2.ns.length cN2,.slice AR2 gt2.rs.length cR2,.int .i64 gt2.st] 26))
 obtain⟨wz,hwz⟩:∃x,x=w2.alloc (.cells #[.slice AT2 gt2.ts.length cT2,.slice AN2 gt2.ns.length cN2,.slice AR2 gt2.rs.length cR2,.int .i64 gt2.st] 26):=⟨_,rfl⟩
 have x2:wz.heap[w2.heap.size]?=some (.cells #[.slice AT2 gt2.ts.length cT2,.slice AN2 gt2.ns.length cN2,.slice AR2 gt2.rs.length cR2,.int .i64 gt2.st] 26 (0,0)):=by rw[hwz];exact heap_alloc_new w2 _
 rw[←hwz]at HBz ⊢
 have d12:Below w1.heap.size w1 w2:=((Below.refl _ w1).alloc (Nat.le_refl _) _).trans (HX2.out.mono (by simp))
 have d1z:Below w1.heap.size w1 wz:=d12.trans (HBz.out.mono d12.size)
 have x1z:=(HBz.out.block w1.heap.size (Array.getElem?_eq_some_iff.1 x1).1).trans x1
 have HZ:=aA (HB2.out.trans (HBz.out.mono HB2.out.size))
 have HP1:=aA (fun(x:World) (h:Below wz.heap.size wz x)=>zat _ gt1 w1.heap.size x (HG1.out.below (d1z.trans (h.mono d1z.size)) (Nat.le_refl _)) HFT1.out (Nat.le_trans d1z.size h.size))
 have HP2:=aA (fun(x:World) (h:Below wz.heap.size wz x)=>zat _ gt2 w2.heap.size x (HG2.out.below (HBz.out.trans (h.mono HBz.out.size)) (Nat.le_refl _)) HFT2.out (Nat.le_trans HBz.out.size h.size))
 have HD1:=aA (fun(x:World) (h:Below wz.heap.size wz x)=>zbJ _ gt1 w1.heap.size x (HG1.out.below (d1z.trans (h.mono d1z.size)) (Nat.le_refl _)) HFT1.out (Nat.le_trans d1z.size h.size) (HF4.out.below (HZ.out.trans (h.mono HZ.out.size))))
 have HP0:=aA (fun(x:World)=>zat _ gt0 x.heap.size x (zjT x _) zid (Nat.le_refl _))
 rw[zlA,zhb]at HP1
 rw[prt2,zj8]at HP2
 rw[prt0]at HP0
 rw[dgt1,zlA]at HD1
 simp only at HP1 HP2 HP0 HD1
 have HSM:=aA (fun(x:World)=>zfx (some ⟨x.heap.size,0,none⟩) (zfw x lt1) _ lt1 (x.drew.alloc (ziD x lt1)) (za4 x lt1 (aO _ (by decide))).1 (aO _ (by decide)) (by decide))
 have CV:=fun x=>zaz x lt1
 rw[zhb]at CV
 have HCB:=aA (fun(x:World)=>(za4 x lt1 (aO _ (by decide))).2.1)
 have X1:=aA (And.intro (cell_of_row _ _ 0 _ _ _ x1z) (And.intro (cell_of_row _ _ 1 _ _ _ x1z) (And.intro (cell_of_row _ _ 2 _ _ _ x1z) (cell_of_row _ _ 3 _ _ _ x1z))))
 have X2:=aA (And.intro (cell_of_row _ _ 0 _ _ _ x2) (And.intro (cell_of_row _ _ 1 _ _ _ x2) (And.intro (cell_of_row _ _ 2 _ _ _ x2) (cell_of_row _ _ 3 _ _ _ x2))))
 have hl1:=Array.getElem?_eq_some_iff.1 x1z
 have hl2:=Array.getElem?_eq_some_iff.1 x2
 have l1:w1.heap.size<wz.heap.size:=hl1.1
 have l2:w2.heap.size<wz.heap.size:=hl2.1
 generalize K.sum lt1=sm at *
 have u0:=X1.out.1
 have u1:=X1.out.2.1
 have u2:=X1.out.2.2.1
 have u3:=X1.out.2.2.2
 simp only[List.getElem?_toArray,List.getElem?_cons_zero,List.getElem?_cons_succ]at u0 u1 u2 u3
 clear hwz hl1 hl2 x1 x1z x2 d12 d1z HX2 HG1 HG2 HBz HBA HB2 HB1
 go_wp2_with fail
 refine(HP1.out wz (Below.refl _ _)).mono ?_;rintro _ w3 ⟨rfl,hb3⟩
 have HB3:=aA hb3
 clear hb3 HP1 u0 u1 u2 u3
 have u0:=(HB3.out.cell (p:=⟨w2.heap.size,0,none⟩) l2).trans X2.out.1
 have u1:=(HB3.out.cell (p:=⟨w2.heap.size,1,none⟩) l2).trans X2.out.2.1
 have u2:=(HB3.out.cell (p:=⟨w2.heap.size,2,none⟩) l2).trans X2.out.2.2.1
 have u3:=(HB3.out.cell (p:=⟨w2.heap.size,3,none⟩) l2).trans X2.out.2.2.2
 simp only[List.getElem?_toArray,List.getElem?_cons_zero,List.getElem?_cons_succ]at u0 u1 u2 u3
 go_wp2_with fail
 refine(HP2.out w3 HB3.out).mono ?_;rintro _ w4 ⟨rfl,hb4⟩
 have HB4:=aA (HB3.out.trans (hb4.mono HB3.out.size))
 clear hb4 HP2 u0 u1 u2 u3
 have u0:=(HB4.out.cell (p:=⟨w1.heap.size,0,none⟩) l1).trans X1.out.1
 have u1:=(HB4.out.cell (p:=⟨w1.heap.size,1,none⟩) l1).trans X1.out.2.1
 have u2:=(HB4.out.cell (p:=⟨w1.heap.size,2,none⟩) l1).trans X1.out.2.2.1
 have u3:=(HB4.out.cell (p:=⟨w1.heap.size,3,none⟩) l1).trans X1.out.2.2.2
 simp only[List.getElem?_toArray,List.getElem?_cons_zero,List.getElem?_cons_succ]at u0 u1 u2 u3
 go_wp2_with fail
 refine(HD1.out w4 HB4.out).mono ?_;rintro _ w5 ⟨rfl,hb5⟩
 have HB5:=aA (HB4.out.trans (hb5.mono HB4.out.size))
 clear hb5 HD1 u0 u1 u2 u3
 go_wp2_with fail
 refine(HP0.out w5).mono ?_;rintro _ w6 ⟨rfl,hb6⟩
 have HB6:=aA (HB5.out.trans (hb6.mono HB5.out.size))
 clear hb6 HP0
 go_wp2_with fail
 refine(HSM.out w6).mono ?_;rintro _ w7 ⟨rfl,rfl⟩
 go_wp2
 go_ret
 exact⟨rfl,(HZ.out.trans (HB6.out.mono HZ.out.size)).trans ((HCB.out w6).mono (HZ.out.trans (HB6.out.mono HZ.out.size)).size)⟩
theorem zjk (A A':Option Addr) (ca cb:Nat) (xs ys:List Int) (w:World) (hra:RdI w w.heap.size A xs) (hrb:RdI w w.heap.size A' ys) (hxl:xs.length≤9223372036854775807) (hyl:ys.length≤9223372036854775807) :
  Calls Tryz.prog 26 #[.slice A xs.length ca,.slice A' ys.length cb] w fun e w'=>e=.returned (.bool (decide (xs=ys)))∧∃n,w'=w.drewN n:=by
 by_cases hl:xs.length=ys.length
 ·have HL:=aA hl
  rw[←hl]
  have hne:((xs.length:Int) != (xs.length:Int))=false:=by simp
  clear hl hyl
  go_enter Tryz.func26,Tryz.ntmps26
  go_wp2
  go_loopw [5] (fun vi wr=>∃(k q:Nat),k≤xs.length∧vi=.int .i64 k∧xs.take k=ys.take k∧wr=w.drewN q) (fun vi _=>xs.length-(intOf vi).toNat)
  case atStart=>exact⟨0,0,Nat.zero_le _,rfl,rfl,rfl⟩
  case round =>
   obtain⟨k,q,hk,rfl,ht,hwr⟩:=hrel
   have HT:=aA ht
   have HW:=aA hwr
   by_cases hlt:k<xs.length
   ·obtain⟨ga,oa,rfl,_,ha⟩:=hra (by omega)
    obtain⟨gb,ob,rfl,_,hb⟩:=hrb (by have:=HL.out;omega)
    have ca':wr.cell? ⟨ga,oa+k,none⟩=some (.int .i64 (xs.getD k 0)):=by rw[hwr];exact ha k hlt
    have cb':wr.cell? ⟨gb,ob+k,none⟩=some (.int .i64 (ys.getD k 0)):=by rw[hwr];exact hb k (by have:=HL.out;omega)
    have k0:(0:Int)≤(k:Int):=by omega
    have k1:(k:Int)<(xs.length:Int):=by omega
    clear ha hb ht hwr hra hrb
    by_cases hxy:xs.getD k 0=ys.getD k 0
    ·have HN:Hid (xs.take (k+1)=ys.take (k+1)):=by
      show xs.take (k+1)=ys.take (k+1)
      rw[L.take_snoc xs k hlt,L.take_snoc ys k (by have:=HL.out;omega),HT.out,hxy]
     rw[←hxy]at cb'
     generalize xs.getD k 0=x at *
     have hx':(x != x)=false:=by simp
     clear hxy
     go_wp2_with fail
     go_quiet (fail)
     go_wp2
     go_roundw
     case rel=>exact⟨k+1,_,hlt,by go_num,HN.out,by rw[HW.out];exact World.drewN_drewN _ _ _⟩
     case measure=>simp[intOf];omega
    ·have HN:Hid (decide (xs=ys)=false):=by
      show decide (xs=ys)=false
      rw[decide_eq_false_iff_not];rintro rfl;exact hxy rfl
     generalize xs.getD k 0=x at *
     generalize ys.getD k 0=y at *
     have hx':(x != y)=true:=by simpa using hxy
     clear hxy
     go_wp2_with fail
     go_quiet (fail)
     go_wp2
     go_ret
     exact⟨aG HN.out.symm,_,by rw[HW.out,World.drewN_drewN]⟩
   ·obtain rfl:k=xs.length:=by omega
    have HE:Hid (decide (xs=ys)=true):=by
     show decide (xs=ys)=true
     rw[decide_eq_true_iff]
     have h:=HT.out
     rwa [List.take_length,HL.out,List.take_length]at h
    clear ht
    subst hwr
    go_wp2
    go_ret
    exact⟨aG HE.out.symm,_,rfl⟩
 ·have HE:Hid (decide (xs=ys)=false):=by
   show decide (xs=ys)=false
   rw[decide_eq_false_iff_not];rintro rfl;exact hl rfl
  have hne:((xs.length:Int) != (ys.length:Int))=true:=by simp;omega
  go_enter Tryz.func26,Tryz.ntmps26
  go_wp2
  go_ret
  exact⟨aG HE.out.symm,0,rfl⟩
end Go.Proofs.YtkfelkpilaipnaaGreatDoor
