/- Part of the proofs over this program: CfgRef2, CfgRef3, MapW, CfgNames, CfgL, CfgR, CfgR2. -/
import Derived.Maps.OwnSet
import Derived.Test.YtkfelkpilaipnaaGreatDoorKC
namespace Go.Proofs.YtkfelkpilaipnaaGreatDoor
set_option maxRecDepth 100000
set_option maxHeartbeats 40000000
open Go.RowKit
theorem zh4 {c:Bool} {a b:Prop} (h:c=false):(if c=true then a else b)=b:=by rw[h];rfl
theorem ze3 {G:Gm.Gr} {k:Nat} (h:k<G.ns.length) (hn:Gm.non1 G k G.ns[k]=false):Gm.nons G=false:=by
 unfold Gm.nons
 rw[Bool.and_eq_false_iff]
 exact .inr (decide_eq_false fun q=>by have:=q k h;rw[hn]at this;cases this)
def zkL (G:Gm.Gr) (k:Nat):Prop:=∀i (h:i<G.ns.length),i<k→Gm.non1 G i G.ns[i]=true
theorem zkL.next {G:Gm.Gr} {k:Nat} (h:zkL G k) (hk:k<G.ns.length) (hn:Gm.non1 G k G.ns[k]=true):zkL G (k+1):=fun i hi hik=>by
 rcases Nat.lt_or_ge i k with q|q
 ·exact h i hi q
 ·obtain rfl:i=k:=by omega
  exact hn
theorem zkL.all {G:Gm.Gr} (h:zkL G G.ns.length) (h1:1≤G.ns.length) (hl:G.ns.length≤16):Gm.nons G=true:=by
 unfold Gm.nons
 rw[decide_eq_true h1,decide_eq_true hl,decide_eq_true fun i hi=>h i hi hi];rfl
theorem zhp (v:Value) (G:Gm.Gr) (B:Nat) (w:World) (hg:bC w B v G) (hf:Gm.Fit G) (hB:B≤w.heap.size) :
  Calls Tryz.prog 28 #[v] w fun e w'=>e=.returned (.bool (Gm.nons G))∧Below w.heap.size w w':=by
 have HG:=aA hg
 obtain⟨AT,cT,AN,cN,AR,cR,rfl,_,⟨hl,hm⟩,_,_,ht,_⟩:=hg
 have HT:=aA ht
 have HF:=aA hf
 have HS0:=aA (One.start w #[.slice AT G.ts.length cT,.slice AN G.ns.length cN,.slice AR G.rs.length cR,.int .i64 G.st])
 clear ht hf
 by_cases h1:G.ns.length<1
 ·have HX:Hid (Gm.nons G=false):=aA (by unfold Gm.nons;rw[decide_eq_false (by omega)];rfl)
  rw[HX.out]
  go_enter Tryz.func28,Tryz.ntmps28
  go_wp2
  go_ret
  exact⟨rfl,HS0.out.below⟩
 by_cases h16:16<G.ns.length
 ·have HX:Hid (Gm.nons G=false):=aA (by unfold Gm.nons;rw[decide_eq_false (show ¬G.ns.length≤16 by omega)];simp)
  rw[HX.out]
  go_enter Tryz.func28,Tryz.ntmps28
  go_wp2
  go_ret
  exact⟨rfl,HS0.out.below⟩
 go_enter Tryz.func28,Tryz.ntmps28
 go_wp2
 go_loopw [3] (fun vi wr=>∃(k:Nat),k≤G.ns.length∧vi=.int .i64 k∧zkL G k∧One w #[.slice AT G.ts.length cT,.slice AN G.ns.length cN,.slice AR G.rs.length cR,.int .i64 G.st] wr) (fun vi _=>G.ns.length-(intOf vi).toNat)
 case atStart=>exact⟨0,Nat.zero_le _,rfl,fun _ _ h=>by omega,HS0.out⟩
 case round =>
  obtain⟨k,hk,rfl,HE,hb⟩:=hrel
  have HE:=aA HE
  have HB:=aA hb
  have q1:=hb.c 1 _ rfl
  have hz:w.heap.size<wr.heap.size:=hb.size
  have hbw:=hb.below
  by_cases hlt:k<G.ns.length
  ·obtain⟨g,o,rfl,hgb,hc⟩:=HT.out (by omega)
   have k0:=(hbw.cell (p:=⟨g,o+k,none⟩) (Nat.lt_of_lt_of_le hgb hB)).trans (hc k hlt)
   have hgs:g<wr.heap.size:=by omega
   have hft:=HF.out.n _ (List.getElem_mem hlt)
   have HNM:=aA (fun x=>zck _ hft.1 x)
   have HTM:=aA (fun(x:World) (h:One w #[.slice AT G.ts.length cT,.slice (some ⟨g,o,none⟩) G.ns.length cN,.slice AR G.rs.length cR,.int .i64 G.st] x)=>zbq _ G _ B x (HG.out.below h.below hB) HF.out hft (Nat.le_trans hB h.below.size))
   have HNO:=aA (fun(x:World) (h:One w #[.slice AT G.ts.length cT,.slice (some ⟨g,o,none⟩) G.ns.length cN,.slice AR G.rs.length cR,.int .i64 G.st] x)=>zfy _ G _ B x (HG.out.below h.below hB) HF.out hft (Nat.le_trans hB h.below.size))
   obtain⟨s,qs⟩:∃t,t=G.ns[k]:=⟨_,rfl⟩
   rw[←qs]at k0 hft HNM HTM HNO
   have QS:=aA qs.symm
   have kk0:(0:Int)≤(k:Int):=by omega
   have kk1:(k:Int)<(G.ns.length:Int):=by omega
   have q0:=hb.c 0 _ rfl
   have q2:=hb.c 2 _ rfl
   have q3:=hb.c 3 _ rfl
   have HD1:=aA (aB (Below.refl wr.heap.size wr) 1)
   have A0:=fun y:Calm.On wr.heap.size wr=>(y.2.cell (p:=⟨g,o+k,none⟩) hgs).trans k0
   have Q0:=fun y:Calm.On wr.heap.size wr=>(y.2.cell (p:=⟨w.heap.size,0,none⟩) hz).trans q0
   have Q1:=fun y:Calm.On wr.heap.size wr=>(y.2.cell (p:=⟨w.heap.size,1,none⟩) hz).trans q1
   have Q2:=fun y:Calm.On wr.heap.size wr=>(y.2.cell (p:=⟨w.heap.size,2,none⟩) hz).trans q2
   have Q3:=fun y:Calm.On wr.heap.size wr=>(y.2.cell (p:=⟨w.heap.size,3,none⟩) hz).trans q3
   clear hc hbw qs hft hb q0 q2 q3
   unfold Gm.term at HTM
   unfold Gm.non at HNO
   by_cases c0:T.isName s=true
   case neg =>
    have HX:Hid (Gm.nons G=false):=aA (ze3 hlt (by rw[QS.out];unfold Gm.non1;simp[Bool.eq_false_iff.2 c0]))
    rw[Bool.eq_false_iff.2 c0]at HNM
    clear c0 HNO HTM
    go_wp2_with fail
    refine Calm.region_tree (fun x=>∃y:Calm.On wr.heap.size wr,x=y.1) (.one [0,1,2,3,4] 5 (.one [6,7,8,9,10,11,12,13,15] 14 (.one [16,17,18,19,20,21,22,23,24] 25 (.fin [26,27])))) (by kernel_rfl) (by kernel_rfl) (fun _ _ d _ _ h=>by cases d <;> exact h) ⟨⟨wr.drew,aB (Below.refl _ _) 1⟩,rfl⟩ ?_
    clear q1 k0
    simp only[Calm.wpT,Calm.wpSt,Calm.pickOps,List.getElem?_toArray,List.getElem?_cons_zero,List.getElem?_cons_succ]
    repeat (go_big_quiet_step (fail))
    refine wpQuiet_nil ?_
    intro KK hKK
    rw[if_pos (by rfl)]
    go_wp2_with fail
    refine(HNM.out _).mono ?_;rintro _ _ ⟨rfl,rfl⟩
    go_wp2_with fail
    refine hKK _ _ ⟨⟨_,HD1.out⟩,rfl⟩ (fun x=>∃y:Calm.On wr.heap.size wr,x=y.1) (fun _ h=>h) ⟨⟨_,HD1.out⟩,rfl⟩ ?_
    repeat (go_big_quiet_step (fail))
    refine wpQuiet_nil ?_
    intro KK hKK
    rw[zh4 (by rfl)]
    refine hKK _ _ ⟨⟨_,HD1.out⟩,rfl⟩ (fun x=>∃y:Calm.On wr.heap.size wr,x=y.1) (fun _ h=>h) ⟨⟨_,HD1.out⟩,rfl⟩ ?_
    go_frame
    repeat (go_big_quiet_step (fail))
    refine wpQuiet_nil ?_
    intro KK hKK
    rw[zh4 (by rfl)]
    refine hKK _ _ ⟨⟨_,HD1.out⟩,rfl⟩ (fun x=>∃y:Calm.On wr.heap.size wr,x=y.1) (fun _ h=>h) ⟨⟨_,HD1.out⟩,rfl⟩ ?_
    go_frame
    repeat (go_big_quiet_step (fail))
    refine wpQuiet_nil ?_
    clear hKK A0 Q0
    have HE2:=aA (HB.out.on HD1.out)
    go_wp2
    go_ret
    exact⟨aG HX.out.symm,HE2.out.below⟩
   rw[c0]at HNM
   by_cases c1:Gm.find G.ns s=(k:Int)
   case neg =>
    have HX:Hid (Gm.nons G=false):=aA (ze3 hlt (by rw[QS.out];unfold Gm.non1 Gm.non;simp[c1]))
    have f1:(Gm.find G.ns s != (k:Int))=true:=by simpa using c1
    clear c0 c1 HTM
    go_wp2_with fail
    refine Calm.region_tree (fun x=>∃y:Calm.On wr.heap.size wr,x=y.1) (.one [0,1,2,3,4] 5 (.one [6,7,8,9,10,11,12,13,15] 14 (.one [16,17,18,19,20,21,22,23,24] 25 (.fin [26,27])))) (by kernel_rfl) (by kernel_rfl) (fun _ _ d _ _ h=>by cases d <;> exact h) ⟨⟨wr.drew,aB (Below.refl _ _) 1⟩,rfl⟩ ?_
    clear q1 k0
    simp only[Calm.wpT,Calm.wpSt,Calm.pickOps,List.getElem?_toArray,List.getElem?_cons_zero,List.getElem?_cons_succ]
    repeat (go_big_quiet_step (fail))
    refine wpQuiet_nil ?_
    intro KK hKK
    rw[if_pos (by rfl)]
    go_wp2_with fail
    refine(HNM.out _).mono ?_;rintro _ _ ⟨rfl,rfl⟩
    go_wp2_with fail
    refine hKK _ _ ⟨⟨_,HD1.out⟩,rfl⟩ (fun x=>∃y:Calm.On wr.heap.size wr,x=y.1) (fun _ h=>h) ⟨⟨_,HD1.out⟩,rfl⟩ ?_
    repeat (go_big_quiet_step (fail))
    refine wpQuiet_nil ?_
    intro KK hKK
    rw[if_pos (by rfl)]
    go_wp2_with fail
    refine(HNO.out _ (HB.out.on HD1.out)).mono ?_;rintro _ w2 ⟨rfl,hb2⟩
    have HD2:=aA (HD1.out.trans (hb2.mono HD1.out.size))
    clear hb2
    go_wp2_with fail
    refine hKK _ _ ⟨⟨_,HD2.out⟩,rfl⟩ (fun x=>∃y:Calm.On wr.heap.size wr,x=y.1) (fun _ h=>h) ⟨⟨_,HD2.out⟩,rfl⟩ ?_
    repeat (go_big_quiet_step (fail))
    refine wpQuiet_nil ?_
    intro KK hKK
    rw[zh4 (by rfl)]
    refine hKK _ _ ⟨⟨_,HD2.out⟩,rfl⟩ (fun x=>∃y:Calm.On wr.heap.size wr,x=y.1) (fun _ h=>h) ⟨⟨_,HD2.out⟩,rfl⟩ ?_
    go_frame
    repeat (go_big_quiet_step (fail))
    refine wpQuiet_nil ?_
    clear hKK A0 Q0
    have HE2:=aA (HB.out.on HD2.out)
    go_wp2
    go_ret
    exact⟨aG HX.out.symm,HE2.out.below⟩
   have f1:(Gm.find G.ns s != (k:Int))=false:=by simpa using c1
   by_cases c2:Gm.find (Gm.names G.ts) s<0
   case neg =>
    have HX:Hid (Gm.nons G=false):=aA (ze3 hlt (by rw[QS.out];unfold Gm.non1 Gm.term;rw[decide_eq_false c2];simp))
    have f2:decide (0≤Gm.find (Gm.names G.ts) s)=true:=by simp;omega
    clear c0 c1 c2
    go_wp2_with fail
    refine Calm.region_tree (fun x=>∃y:Calm.On wr.heap.size wr,x=y.1) (.one [0,1,2,3,4] 5 (.one [6,7,8,9,10,11,12,13,15] 14 (.one [16,17,18,19,20,21,22,23,24] 25 (.fin [26,27])))) (by kernel_rfl) (by kernel_rfl) (fun _ _ d _ _ h=>by cases d <;> exact h) ⟨⟨wr.drew,aB (Below.refl _ _) 1⟩,rfl⟩ ?_
    clear q1 k0
    simp only[Calm.wpT,Calm.wpSt,Calm.pickOps,List.getElem?_toArray,List.getElem?_cons_zero,List.getElem?_cons_succ]
    repeat (go_big_quiet_step (fail))
    refine wpQuiet_nil ?_
    intro KK hKK
    rw[if_pos (by rfl)]
    go_wp2_with fail
    refine(HNM.out _).mono ?_;rintro _ _ ⟨rfl,rfl⟩
    go_wp2_with fail
    refine hKK _ _ ⟨⟨_,HD1.out⟩,rfl⟩ (fun x=>∃y:Calm.On wr.heap.size wr,x=y.1) (fun _ h=>h) ⟨⟨_,HD1.out⟩,rfl⟩ ?_
    repeat (go_big_quiet_step (fail))
    refine wpQuiet_nil ?_
    intro KK hKK
    rw[if_pos (by rfl)]
    go_wp2_with fail
    refine(HNO.out _ (HB.out.on HD1.out)).mono ?_;rintro _ w2 ⟨rfl,hb2⟩
    have HD2:=aA (HD1.out.trans (hb2.mono HD1.out.size))
    clear hb2
    go_wp2_with fail
    refine hKK _ _ ⟨⟨_,HD2.out⟩,rfl⟩ (fun x=>∃y:Calm.On wr.heap.size wr,x=y.1) (fun _ h=>h) ⟨⟨_,HD2.out⟩,rfl⟩ ?_
    repeat (go_big_quiet_step (fail))
    refine wpQuiet_nil ?_
    intro KK hKK
    rw[if_pos (by rfl)]
    go_wp2_with fail
    refine(HTM.out _ (HB.out.on HD2.out)).mono ?_;rintro _ w3 ⟨rfl,hb3⟩
    have HD3:=aA (HD2.out.trans (hb3.mono HD2.out.size))
    clear hb3
    go_wp2_with fail
    refine hKK _ _ ⟨⟨_,HD3.out⟩,rfl⟩ (fun x=>∃y:Calm.On wr.heap.size wr,x=y.1) (fun _ h=>h) ⟨⟨_,HD3.out⟩,rfl⟩ ?_
    repeat (go_big_quiet_step (fail))
    refine wpQuiet_nil ?_
    clear hKK A0 Q0
    have HE2:=aA (HB.out.on HD3.out)
    go_wp2
    go_ret
    exact⟨aG HX.out.symm,HE2.out.below⟩
   have HX:Hid (zkL G (k+1)):=aA (HE.out.next hlt (by rw[QS.out];unfold Gm.non1 Gm.non Gm.term;rw[c0,decide_eq_true c2,c1];simp))
   have f2:decide (0≤Gm.find (Gm.names G.ts) s)=false:=by simp;omega
   clear c0 c1 c2
   go_wp2_with fail
   refine Calm.region_tree (fun x=>∃y:Calm.On wr.heap.size wr,x=y.1) (.one [0,1,2,3,4] 5 (.one [6,7,8,9,10,11,12,13,15] 14 (.one [16,17,18,19,20,21,22,23,24] 25 (.fin [26,27])))) (by kernel_rfl) (by kernel_rfl) (fun _ _ d _ _ h=>by cases d <;> exact h) ⟨⟨wr.drew,aB (Below.refl _ _) 1⟩,rfl⟩ ?_
   clear q1 k0
   simp only[Calm.wpT,Calm.wpSt,Calm.pickOps,List.getElem?_toArray,List.getElem?_cons_zero,List.getElem?_cons_succ]
   repeat (go_big_quiet_step (fail))
   refine wpQuiet_nil ?_
   intro KK hKK
   rw[if_pos (by rfl)]
   go_wp2_with fail
   refine(HNM.out _).mono ?_;rintro _ _ ⟨rfl,rfl⟩
   go_wp2_with fail
   refine hKK _ _ ⟨⟨_,HD1.out⟩,rfl⟩ (fun x=>∃y:Calm.On wr.heap.size wr,x=y.1) (fun _ h=>h) ⟨⟨_,HD1.out⟩,rfl⟩ ?_
   repeat (go_big_quiet_step (fail))
   refine wpQuiet_nil ?_
   intro KK hKK
   rw[if_pos (by rfl)]
   go_wp2_with fail
   refine(HNO.out _ (HB.out.on HD1.out)).mono ?_;rintro _ w2 ⟨rfl,hb2⟩
   have HD2:=aA (HD1.out.trans (hb2.mono HD1.out.size))
   clear hb2
   go_wp2_with fail
   refine hKK _ _ ⟨⟨_,HD2.out⟩,rfl⟩ (fun x=>∃y:Calm.On wr.heap.size wr,x=y.1) (fun _ h=>h) ⟨⟨_,HD2.out⟩,rfl⟩ ?_
   repeat (go_big_quiet_step (fail))
   refine wpQuiet_nil ?_
   intro KK hKK
   rw[if_pos (by rfl)]
   go_wp2_with fail
   refine(HTM.out _ (HB.out.on HD2.out)).mono ?_;rintro _ w3 ⟨rfl,hb3⟩
   have HD3:=aA (HD2.out.trans (hb3.mono HD2.out.size))
   clear hb3
   go_wp2_with fail
   refine hKK _ _ ⟨⟨_,HD3.out⟩,rfl⟩ (fun x=>∃y:Calm.On wr.heap.size wr,x=y.1) (fun _ h=>h) ⟨⟨_,HD3.out⟩,rfl⟩ ?_
   repeat (go_big_quiet_step (fail))
   refine wpQuiet_nil ?_
   clear hKK A0 Q0
   have HE2:=aA (HB.out.on HD3.out)
   go_wp2
   go_roundw
   case rel=>exact⟨k+1,by omega,by go_num,HX.out,HE2.out⟩
   case measure=>simp[intOf];omega
  ·obtain rfl:k=G.ns.length:=by omega
   have HX:=aA (HE.out.all (by omega) (by omega))
   clear hbw hb
   go_wp2
   go_ret
   exact⟨aG HX.out.symm,HB.out.below⟩
theorem zhl {G:Gm.Gr} {x:Gm.Rl} {k:Nat} (h:k<x.r.length) (hn:(Gm.has G x.r[k] && !(decide (0≤x.r[k])&&x.p == -1))=false):Gm.rule G x=false:=by
 unfold Gm.rule
 rw[Bool.and_eq_false_iff]
 refine .inr ?_
 rw[List.all_eq_false]
 exact⟨_,List.getElem_mem h,by rw[hn];simp⟩
def zjY (G:Gm.Gr) (x:Gm.Rl) (k:Nat):Prop:=∀i (h:i<x.r.length),i<k→(Gm.has G x.r[i] && !(decide (0≤x.r[i])&&x.p == -1))=true
theorem zjY.next {G:Gm.Gr} {x:Gm.Rl} {k:Nat} (h:zjY G x k) (hk:k<x.r.length) (hn:(Gm.has G x.r[k] && !(decide (0≤x.r[k])&&x.p == -1))=true):zjY G x (k+1):=fun i hi hik=>by
 rcases Nat.lt_or_ge i k with q|q
 ·exact h i hi q
 ·obtain rfl:i=k:=by omega
  exact hn
theorem zjY.all {G:Gm.Gr} {x:Gm.Rl} (h:zjY G x x.r.length) (h1:x.r.length≤6) (h2:-1≤x.p) (h3:x.p<G.ts.length):Gm.rule G x=true:=by
 unfold Gm.rule
 rw[decide_eq_true h1,decide_eq_true h2,decide_eq_true h3]
 simp only[Bool.true_and]
 rw[List.all_eq_true]
 intro z hz
 obtain⟨i,hi,rfl⟩:=List.getElem_of_mem hz
 exact h i hi hi
theorem zho (v:Value) (G:Gm.Gr) (B:Nat) (x:Gm.Rl) (A:Option Addr) (c:Nat) (w:World) (hg:bC w B v G) (hr:RdI w B A x.r) (hx:∀z∈x.r,Gm.In z) (hB:B≤w.heap.size) :
  Calls Tryz.prog 29 #[v,.agg #[.int .i64 x.l,.slice A x.r.length c,.int .i64 x.p]] w fun e w'=>e=.returned (.bool (Gm.rule G x))∧Below w.heap.size w w':=by
 have HG:=aA hg
 obtain⟨AT,cT,AN,cN,AR,cR,rfl,_,_,_,_,_,_⟩:=hg
 have HT:=aA hr
 have HF:=aA hx
 have HB0:=aA ((One.start w #[.slice AT G.ts.length cT,.slice AN G.ns.length cN,.slice AR G.rs.length cR,.int .i64 G.st]).alloc (.cells #[.int .i64 x.l,.slice A x.r.length c,.int .i64 x.p] 45))
 have HK0:Hid (((w.alloc (.cells #[.slice AT G.ts.length cT,.slice AN G.ns.length cN,.slice AR G.rs.length cR,.int .i64 G.st] 26)).alloc (.cells #[.int .i64 x.l,.slice A x.r.length c,.int .i64 x.p] 45)).heap[w.heap.size+1]?=some (.cells #[.int .i64 x.l,.slice A x.r.length c,.int .i64 x.p] 45 (0,0))):=aA (by
  have:=heap_alloc_new (w.alloc (.cells #[.slice AT G.ts.length cT,.slice AN G.ns.length cN,.slice AR G.rs.length cR,.int .i64 G.st] 26)) (.cells #[.int .i64 x.l,.slice A x.r.length c,.int .i64 x.p] 45)
  simpa using this)
 clear hr hx
 by_cases h1:6<x.r.length
 ·have HX:Hid (Gm.rule G x=false):=aA (by unfold Gm.rule;rw[decide_eq_false (show ¬x.r.length≤6 by omega)];rfl)
  rw[HX.out]
  go_enter Tryz.func29,Tryz.ntmps29
  go_wp2
  go_ret
  exact⟨rfl,HB0.out.below⟩
 by_cases h2:x.p < -1
 ·have HX:Hid (Gm.rule G x=false):=aA (by unfold Gm.rule;rw[decide_eq_false (show ¬ -1≤x.p by omega)];simp)
  rw[HX.out]
  go_enter Tryz.func29,Tryz.ntmps29
  go_wp2
  go_ret
  exact⟨rfl,HB0.out.below⟩
 by_cases h3:(G.ts.length:Int)≤x.p
 ·have HX:Hid (Gm.rule G x=false):=aA (by unfold Gm.rule;rw[decide_eq_false (show ¬x.p<(G.ts.length:Int) by omega)];simp)
  rw[HX.out]
  go_enter Tryz.func29,Tryz.ntmps29
  go_wp2
  go_ret
  exact⟨rfl,HB0.out.below⟩
 go_enter Tryz.func29,Tryz.ntmps29
 go_wp2
 go_loopw [5] (fun vi wr=>∃(k:Nat),k≤x.r.length∧vi=.int .i64 k∧zjY G x k∧One w #[.slice AT G.ts.length cT,.slice AN G.ns.length cN,.slice AR G.rs.length cR,.int .i64 G.st] wr∧Hid (wr.heap[w.heap.size+1]?=some (.cells #[.int .i64 x.l,.slice A x.r.length c,.int .i64 x.p] 45 (0,0)))) (fun vi _=>x.r.length-(intOf vi).toNat)
 case atStart=>exact⟨0,Nat.zero_le _,rfl,fun _ _ h=>by omega,HB0.out,HK0⟩
 case round =>
  obtain⟨k,hk,rfl,HE,hb,HBK⟩:=hrel
  have HE:=aA HE
  have HB:=aA hb
  have hz:w.heap.size<wr.heap.size:=hb.size
  have hz1:w.heap.size+1<wr.heap.size:=(Array.getElem?_eq_some_iff.1 HBK.out).1
  have hbw:=hb.below
  have q0:=hb.c 0 _ rfl
  have q1:=hb.c 1 _ rfl
  have q2:=hb.c 2 _ rfl
  have q3:=hb.c 3 _ rfl
  have d0:=cell_of_row wr _ 0 _ _ _ HBK.out
  have d1:=cell_of_row wr _ 1 _ _ _ HBK.out
  have d2:=cell_of_row wr _ 2 _ _ _ HBK.out
  clear hb
  by_cases hlt:k<x.r.length
  ·obtain⟨g,o,rfl,hgb,hc⟩:=HT.out (by omega)
   have k0:=(hbw.cell (p:=⟨g,o+k,none⟩) (Nat.lt_of_lt_of_le hgb hB)).trans (hc k hlt)
   rw[L.gd_lt hlt]at k0
   have hgs:g<wr.heap.size:=by omega
   have hft:=HF.out _ (List.getElem_mem hlt)
   have HH:=aA (fun(y:World) (h:One w #[.slice AT G.ts.length cT,.slice AN G.ns.length cN,.slice AR G.rs.length cR,.int .i64 G.st] y)=>zea _ G B x.r[k] hft y (HG.out.below h.below hB))
   obtain⟨z,qz⟩:∃t,t=x.r[k]:=⟨_,rfl⟩
   rw[←qz]at k0 HH
   have QZ:=aA qz.symm
   have kk0:(0:Int)≤(k:Int):=by omega
   have kk1:(k:Int)<(x.r.length:Int):=by omega
   have HD1:=aA (aB (Below.refl wr.heap.size wr) 1)
   have A0:=fun y:Calm.On wr.heap.size wr=>(y.2.cell (p:=⟨g,o+k,none⟩) hgs).trans k0
   have Q0:=fun y:Calm.On wr.heap.size wr=>(y.2.cell (p:=⟨w.heap.size,0,none⟩) hz).trans q0
   have Q1:=fun y:Calm.On wr.heap.size wr=>(y.2.cell (p:=⟨w.heap.size,1,none⟩) hz).trans q1
   have Q2:=fun y:Calm.On wr.heap.size wr=>(y.2.cell (p:=⟨w.heap.size,2,none⟩) hz).trans q2
   have Q3:=fun y:Calm.On wr.heap.size wr=>(y.2.cell (p:=⟨w.heap.size,3,none⟩) hz).trans q3
   have D0:=fun y:Calm.On wr.heap.size wr=>(y.2.cell (p:=⟨w.heap.size+1,0,none⟩) hz1).trans d0
   have D1:=fun y:Calm.On wr.heap.size wr=>(y.2.cell (p:=⟨w.heap.size+1,1,none⟩) hz1).trans d1
   have D2:=fun y:Calm.On wr.heap.size wr=>(y.2.cell (p:=⟨w.heap.size+1,2,none⟩) hz1).trans d2
   clear hc hbw qz hft
   cases c0:Gm.has G z
   ·have HX:Hid (Gm.rule G x=false):=aA (zhl hlt (by rw[QZ.out];simp[c0]))
    rw[c0]at HH
    clear c0
    go_wp2_with fail
    refine Calm.region_tree (fun x=>∃y:Calm.On wr.heap.size wr,x=y.1) (.one [0,1,2,3,4,5] 6 (.fin [7,8,9,10,11,12,13,14,15,16,17,18,19,20])) (by kernel_rfl) (by kernel_rfl) (fun _ _ d _ _ h=>by cases d <;> exact h) ⟨⟨wr.drew,aB (Below.refl _ _) 1⟩,rfl⟩ ?_
    clear q0 q1 q2 q3 d0 d1 d2 k0
    simp only[Calm.wpT,Calm.wpSt,Calm.pickOps,List.getElem?_toArray,List.getElem?_cons_zero,List.getElem?_cons_succ]
    repeat (go_big_quiet_step (fail))
    refine wpQuiet_nil ?_
    intro KK hKK
    rw[if_pos (by rfl)]
    go_wp2_with fail
    refine(HH.out _ (HB.out.on HD1.out)).mono ?_;rintro _ w2 ⟨rfl,hb2⟩
    have HD2:=aA (HD1.out.trans (hb2.mono HD1.out.size))
    clear hb2
    go_wp2_with fail
    refine hKK _ _ ⟨⟨_,HD2.out⟩,rfl⟩ (fun x=>∃y:Calm.On wr.heap.size wr,x=y.1) (fun _ h=>h) ⟨⟨_,HD2.out⟩,rfl⟩ ?_
    repeat (go_big_quiet_step (fail))
    refine wpQuiet_nil ?_
    clear hKK A0 Q0 Q1 Q2 Q3 D0 D1 D2
    have HE2:=aA (HB.out.on HD2.out)
    have HK2:=aA ((HD2.out.block (w.heap.size+1) (Nat.lt_of_succ_le hz1)).trans HBK.out)
    go_wp2
    go_ret
    exact⟨aG HX.out.symm,HE2.out.below⟩
   ·rw[c0]at HH
    have C0:=aA c0
    clear c0
    by_cases c1:0≤z
    ·by_cases c2:x.p = -1
     ·have HX:Hid (Gm.rule G x=false):=aA (zhl hlt (by rw[QZ.out];simp[c1,c2]))
      have f2:(x.p == -1)=true:=by simpa using c2
      have f1:decide (0≤z)=true:=decide_eq_true c1
      clear c2
      go_wp2_with fail
      refine Calm.region_tree (fun x=>∃y:Calm.On wr.heap.size wr,x=y.1) (.one [0,1,2,3,4,5] 6 (.fin [7,8,9,10,11,12,13,14,15,16,17,18,19,20])) (by kernel_rfl) (by kernel_rfl) (fun _ _ d _ _ h=>by cases d <;> exact h) ⟨⟨wr.drew,aB (Below.refl _ _) 1⟩,rfl⟩ ?_
      clear q0 q1 q2 q3 d0 d1 d2 k0
      simp only[Calm.wpT,Calm.wpSt,Calm.pickOps,List.getElem?_toArray,List.getElem?_cons_zero,List.getElem?_cons_succ]
      repeat (go_big_quiet_step (fail))
      refine wpQuiet_nil ?_
      intro KK hKK
      rw[if_pos (by rfl)]
      go_wp2_with fail
      refine(HH.out _ (HB.out.on HD1.out)).mono ?_;rintro _ w2 ⟨rfl,hb2⟩
      have HD2:=aA (HD1.out.trans (hb2.mono HD1.out.size))
      clear hb2
      go_wp2_with fail
      refine hKK _ _ ⟨⟨_,HD2.out⟩,rfl⟩ (fun x=>∃y:Calm.On wr.heap.size wr,x=y.1) (fun _ h=>h) ⟨⟨_,HD2.out⟩,rfl⟩ ?_
      repeat (go_big_quiet_step (fail))
      refine wpQuiet_nil ?_
      clear hKK A0 Q0 Q1 Q2 Q3 D0 D1 D2
      have HE2:=aA (HB.out.on HD2.out)
      have HK2:=aA ((HD2.out.block (w.heap.size+1) (Nat.lt_of_succ_le hz1)).trans HBK.out)
      go_wp2
      go_ret
      exact⟨aG HX.out.symm,HE2.out.below⟩
     ·have HX:Hid (zjY G x (k+1)):=aA (HE.out.next hlt (by rw[QZ.out,C0.out];simp[c2]))
      have f2:(x.p == -1)=false:=by simpa using c2
      have f1:decide (0≤z)=true:=decide_eq_true c1
      clear c2
      go_wp2_with fail
      refine Calm.region_tree (fun x=>∃y:Calm.On wr.heap.size wr,x=y.1) (.one [0,1,2,3,4,5] 6 (.fin [7,8,9,10,11,12,13,14,15,16,17,18,19,20])) (by kernel_rfl) (by kernel_rfl) (fun _ _ d _ _ h=>by cases d <;> exact h) ⟨⟨wr.drew,aB (Below.refl _ _) 1⟩,rfl⟩ ?_
      clear q0 q1 q2 q3 d0 d1 d2 k0
      simp only[Calm.wpT,Calm.wpSt,Calm.pickOps,List.getElem?_toArray,List.getElem?_cons_zero,List.getElem?_cons_succ]
      repeat (go_big_quiet_step (fail))
      refine wpQuiet_nil ?_
      intro KK hKK
      rw[if_pos (by rfl)]
      go_wp2_with fail
      refine(HH.out _ (HB.out.on HD1.out)).mono ?_;rintro _ w2 ⟨rfl,hb2⟩
      have HD2:=aA (HD1.out.trans (hb2.mono HD1.out.size))
      clear hb2
      go_wp2_with fail
      refine hKK _ _ ⟨⟨_,HD2.out⟩,rfl⟩ (fun x=>∃y:Calm.On wr.heap.size wr,x=y.1) (fun _ h=>h) ⟨⟨_,HD2.out⟩,rfl⟩ ?_
      repeat (go_big_quiet_step (fail))
      refine wpQuiet_nil ?_
      clear hKK A0 Q0 Q1 Q2 Q3 D0 D1 D2
      have HE2:=aA (HB.out.on HD2.out)
      have HK2:=aA ((HD2.out.block (w.heap.size+1) (Nat.lt_of_succ_le hz1)).trans HBK.out)
      go_wp2
      go_roundw
      case rel=>exact⟨k+1,by omega,by go_num,HX.out,HE2.out,HK2⟩
      case measure=>simp[intOf];omega
    ·have HX:Hid (zjY G x (k+1)):=aA (HE.out.next hlt (by rw[QZ.out,C0.out];simp[c1]))
     have f1:decide (0≤z)=false:=decide_eq_false c1
     go_wp2_with fail
     refine Calm.region_tree (fun x=>∃y:Calm.On wr.heap.size wr,x=y.1) (.one [0,1,2,3,4,5] 6 (.fin [7,8,9,10,11,12,13,14,15,16,17,18,19,20])) (by kernel_rfl) (by kernel_rfl) (fun _ _ d _ _ h=>by cases d <;> exact h) ⟨⟨wr.drew,aB (Below.refl _ _) 1⟩,rfl⟩ ?_
     clear q0 q1 q2 q3 d0 d1 d2 k0
     simp only[Calm.wpT,Calm.wpSt,Calm.pickOps,List.getElem?_toArray,List.getElem?_cons_zero,List.getElem?_cons_succ]
     repeat (go_big_quiet_step (fail))
     refine wpQuiet_nil ?_
     intro KK hKK
     rw[if_pos (by rfl)]
     go_wp2_with fail
     refine(HH.out _ (HB.out.on HD1.out)).mono ?_;rintro _ w2 ⟨rfl,hb2⟩
     have HD2:=aA (HD1.out.trans (hb2.mono HD1.out.size))
     clear hb2
     go_wp2_with fail
     refine hKK _ _ ⟨⟨_,HD2.out⟩,rfl⟩ (fun x=>∃y:Calm.On wr.heap.size wr,x=y.1) (fun _ h=>h) ⟨⟨_,HD2.out⟩,rfl⟩ ?_
     repeat (go_big_quiet_step (fail))
     refine wpQuiet_nil ?_
     clear hKK A0 Q0 Q1 Q2 Q3 D0 D1 D2
     have HE2:=aA (HB.out.on HD2.out)
     have HK2:=aA ((HD2.out.block (w.heap.size+1) (Nat.lt_of_succ_le hz1)).trans HBK.out)
     go_wp2
     go_roundw
     case rel=>exact⟨k+1,by omega,by go_num,HX.out,HE2.out,HK2⟩
     case measure=>simp[intOf];omega
  ·obtain rfl:k=x.r.length:=by omega
   have HX:=aA (HE.out.all (by omega) (by omega) (by omega))
   clear hbw
   go_wp2
   go_ret
   exact⟨aG HX.out.symm,HB.out.below⟩
theorem zgb {G:Gm.Gr} {rs:List Gm.Rl} {k:Nat} (h:k<rs.length) (z:Int):Gm.rules G (rs.drop k) z=if rs[k].l<0∨z+1<rs[k].l∨Gm.rule G rs[k]=false then false else Gm.rules G (rs.drop (k+1)) (if z<rs[k].l then rs[k].l else z):=by
 rw[List.drop_eq_getElem_cons h,Gm.rules]
theorem zhk {G:Gm.Gr} {rs:List Gm.Rl} {k:Nat} (h:rs.length≤k) (z:Int):Gm.rules G (rs.drop k) z=(z==(G.ns.length:Int)-1):=by
 rw[List.drop_eq_nil_of_le h,Gm.rules]
theorem zcV (v:Value) (G:Gm.Gr) (B:Nat) (w:World) (hg:bC w B v G) (hf:Gm.Fit G) (hB:B≤w.heap.size) :
  Calls Tryz.prog 14 #[v] w fun e w'=>e=.returned (.bool (Gm.right G))∧Below w.heap.size w w':=by
 have HG:=aA hg
 obtain⟨AT,cT,AN,cN,AR,cR,rfl,⟨hlT,hmT⟩,⟨hlN,hmN⟩,⟨hlR,hmR⟩,_,_,ht⟩:=hg
 have HT:=aA ht
 have HF:=aA hf
 have HS0:=aA (One.start w #[.slice AT G.ts.length cT,.slice AN G.ns.length cN,.slice AR G.rs.length cR,.int .i64 G.st])
 have HTS:=aA (fun(x:World) (h:One w #[.slice AT G.ts.length cT,.slice AN G.ns.length cN,.slice AR G.rs.length cR,.int .i64 G.st] x)=>zgd _ G B x (HG.out.below h.below hB) HF.out (Nat.le_trans hB h.below.size))
 have HNS:=aA (fun(x:World) (h:One w #[.slice AT G.ts.length cT,.slice AN G.ns.length cN,.slice AR G.rs.length cR,.int .i64 G.st] x)=>zhp _ G B x (HG.out.below h.below hB) HF.out (Nat.le_trans hB h.below.size))
 clear ht hf
 cases q1:Gm.terms G.ts
 ·have HX:Hid (Gm.right G=false):=aA (by unfold Gm.right;rw[q1];rfl)
  rw[HX.out]
  rw[q1]at HTS
  clear q1
  go_enter Tryz.func14,Tryz.ntmps14
  go_wp2_with fail
  refine(HTS.out _ HS0.out).mono ?_;rintro _ w2 ⟨rfl,hb⟩
  have HB2:=aA (HS0.out.on hb)
  clear hb
  go_wp2
  go_ret
  exact⟨rfl,HB2.out.below⟩
 rw[q1]at HTS
 cases q2:Gm.nons G
 ·have HX:Hid (Gm.right G=false):=aA (by unfold Gm.right;rw[q2];simp)
  rw[HX.out]
  rw[q2]at HNS
  clear q1 q2
  go_enter Tryz.func14,Tryz.ntmps14
  go_wp2_with fail
  refine(HTS.out _ HS0.out).mono ?_;rintro _ w2 ⟨rfl,hb⟩
  have HB2:=aA (HS0.out.on hb)
  have hz:w.heap.size<w2.heap.size:=HB2.out.size
  have d0:=HB2.out.c 0 _ rfl
  have d1:=HB2.out.c 1 _ rfl
  have d2:=HB2.out.c 2 _ rfl
  have d3:=HB2.out.c 3 _ rfl
  clear hb
  go_wp2_with fail
  refine(HNS.out _ HB2.out).mono ?_;rintro _ w3 ⟨rfl,hb⟩
  have HB3:=aA (HB2.out.on hb)
  clear hb
  go_wp2
  go_ret
  exact⟨rfl,HB3.out.below⟩
 rw[q2]at HNS
 have hlen:(G.rs.length:Int)≤9223372036854775807:=by omega
 by_cases h1:1≤G.rs.length∧G.rs.length≤40∧0≤G.st∧G.st<G.ns.length
 case neg =>
  have HX:Hid (Gm.right G=false):=aA (by
   unfold Gm.right
   by_cases a1:1≤G.rs.length
   ·by_cases a2:G.rs.length≤40
    ·by_cases a3:0≤G.st
     ·have a4:¬G.st<G.ns.length:=fun a4=>h1 ⟨a1,a2,a3,a4⟩
      rw[decide_eq_false a4];simp
     ·rw[decide_eq_false a3];simp
    ·rw[decide_eq_false a2];simp
   ·rw[decide_eq_false a1];simp)
  rw[HX.out]
  clear q1 q2
  by_cases a1:1≤G.rs.length
  ·by_cases a2:G.rs.length≤40
   ·by_cases a3:0≤G.st
    ·have a4:¬G.st<G.ns.length:=fun a4=>h1 ⟨a1,a2,a3,a4⟩
     have a4:=Int.not_lt.1 a4
     clear h1
     go_enter Tryz.func14,Tryz.ntmps14
     go_wp2_with fail
     refine(HTS.out _ HS0.out).mono ?_;rintro _ w2 ⟨rfl,hb⟩
     have HB2:=aA (HS0.out.on hb)
     have hz:w.heap.size<w2.heap.size:=HB2.out.size
     have d0:=HB2.out.c 0 _ rfl
     have d1:=HB2.out.c 1 _ rfl
     have d2:=HB2.out.c 2 _ rfl
     have d3:=HB2.out.c 3 _ rfl
     clear hb
     go_wp2_with fail
     refine(HNS.out _ HB2.out).mono ?_;rintro _ w3 ⟨rfl,hb⟩
     have HB3:=aA (HB2.out.on hb)
     have hz3:w.heap.size<w3.heap.size:=HB3.out.size
     have e1:=HB3.out.c 1 _ rfl
     have e2:=HB3.out.c 2 _ rfl
     have e3:=HB3.out.c 3 _ rfl
     clear hb
     go_wp2
     go_ret
     exact⟨rfl,HB3.out.below⟩
    ·have a3:=Int.not_le.1 a3
     clear h1
     go_enter Tryz.func14,Tryz.ntmps14
     go_wp2_with fail
     refine(HTS.out _ HS0.out).mono ?_;rintro _ w2 ⟨rfl,hb⟩
     have HB2:=aA (HS0.out.on hb)
     have hz:w.heap.size<w2.heap.size:=HB2.out.size
     have d0:=HB2.out.c 0 _ rfl
     have d1:=HB2.out.c 1 _ rfl
     have d2:=HB2.out.c 2 _ rfl
     have d3:=HB2.out.c 3 _ rfl
     clear hb
     go_wp2_with fail
     refine(HNS.out _ HB2.out).mono ?_;rintro _ w3 ⟨rfl,hb⟩
     have HB3:=aA (HB2.out.on hb)
     have hz3:w.heap.size<w3.heap.size:=HB3.out.size
     have e1:=HB3.out.c 1 _ rfl
     have e2:=HB3.out.c 2 _ rfl
     have e3:=HB3.out.c 3 _ rfl
     clear hb
     go_wp2
     go_ret
     exact⟨rfl,HB3.out.below⟩
   ·have a2:=Nat.not_le.1 a2
    clear h1
    go_enter Tryz.func14,Tryz.ntmps14
    go_wp2_with fail
    refine(HTS.out _ HS0.out).mono ?_;rintro _ w2 ⟨rfl,hb⟩
    have HB2:=aA (HS0.out.on hb)
    have hz:w.heap.size<w2.heap.size:=HB2.out.size
    have d0:=HB2.out.c 0 _ rfl
    have d1:=HB2.out.c 1 _ rfl
    have d2:=HB2.out.c 2 _ rfl
    have d3:=HB2.out.c 3 _ rfl
    clear hb
    go_wp2_with fail
    refine(HNS.out _ HB2.out).mono ?_;rintro _ w3 ⟨rfl,hb⟩
    have HB3:=aA (HB2.out.on hb)
    have hz3:w.heap.size<w3.heap.size:=HB3.out.size
    have e2:=HB3.out.c 2 _ rfl
    clear hb
    go_wp2
    go_ret
    exact⟨rfl,HB3.out.below⟩
  ·have a1:G.rs.length<1:=by omega
   clear h1
   go_enter Tryz.func14,Tryz.ntmps14
   go_wp2_with fail
   refine(HTS.out _ HS0.out).mono ?_;rintro _ w2 ⟨rfl,hb⟩
   have HB2:=aA (HS0.out.on hb)
   have hz:w.heap.size<w2.heap.size:=HB2.out.size
   have d0:=HB2.out.c 0 _ rfl
   have d1:=HB2.out.c 1 _ rfl
   have d2:=HB2.out.c 2 _ rfl
   have d3:=HB2.out.c 3 _ rfl
   clear hb
   go_wp2_with fail
   refine(HNS.out _ HB2.out).mono ?_;rintro _ w3 ⟨rfl,hb⟩
   have HB3:=aA (HB2.out.on hb)
   have hz3:w.heap.size<w3.heap.size:=HB3.out.size
   have e2:=HB3.out.c 2 _ rfl
   clear hb
   go_wp2
   go_ret
   exact⟨rfl,HB3.out.below⟩
 have HRR:Hid (Gm.right G=Gm.rules G (G.rs.drop 0) (-1)):=aA (by unfold Gm.right;rw[q1,q2,decide_eq_true h1.1,decide_eq_true h1.2.1,decide_eq_true h1.2.2.1,decide_eq_true h1.2.2.2];rfl)
 clear q1 q2
 obtain⟨g1,g2,g3,g4⟩:=h1
 go_enter Tryz.func14,Tryz.ntmps14
 go_wp2_with fail
 refine(HTS.out _ HS0.out).mono ?_;rintro _ w2 ⟨rfl,hb⟩
 have HB2:=aA (HS0.out.on hb)
 have hz:w.heap.size<w2.heap.size:=HB2.out.size
 have d0:=HB2.out.c 0 _ rfl
 have d1:=HB2.out.c 1 _ rfl
 have d2:=HB2.out.c 2 _ rfl
 have d3:=HB2.out.c 3 _ rfl
 clear hb
 go_wp2_with fail
 refine(HNS.out _ HB2.out).mono ?_;rintro _ w3 ⟨rfl,hb⟩
 have HB3:=aA (HB2.out.on hb)
 have hz3:w.heap.size<w3.heap.size:=HB3.out.size
 have e1:=HB3.out.c 1 _ rfl
 have e2:=HB3.out.c 2 _ rfl
 have e3:=HB3.out.c 3 _ rfl
 clear hb d0 d1 d2 d3 hz HB2
 go_wp2
 go_loopw [3,4] (fun vt vi wr=>∃(k:Nat) (z:Int),k≤G.rs.length∧vi=.int .i64 k∧vt=.int .i64 z∧(-1≤z∧z≤100+k)∧Hid (Gm.right G=Gm.rules G (G.rs.drop k) z)∧One w #[.slice AT G.ts.length cT,.slice AN G.ns.length cN,.slice AR G.rs.length cR,.int .i64 G.st] wr) (fun _ vi _=>G.rs.length-(intOf vi).toNat)
 case atStart=>exact⟨0,-1,Nat.zero_le _,rfl,rfl,by omega,HRR,HB3.out⟩
 case round =>
  clear e1 e2 e3 hz3 HB3
  obtain⟨k,z,hk,rfl,rfl,hzz,HE,hb⟩:=hrel
  have HB:=aA hb
  have hz:w.heap.size<wr.heap.size:=hb.size
  have hbw:=hb.below
  have q0:=hb.c 0 _ rfl
  have q1:=hb.c 1 _ rfl
  have q2:=hb.c 2 _ rfl
  have q3:=hb.c 3 _ rfl
  clear hb
  by_cases hlt:k<G.rs.length
  ·obtain⟨g,o,rfl,hgb,hc⟩:=HT.out (by omega)
   obtain⟨k0,⟨A',c',k1,_,_,hri⟩,k2⟩:=hc k hlt
   have k0:=(hbw.cell (p:=⟨g,o+k*3,none⟩) (Nat.lt_of_lt_of_le hgb hB)).trans k0
   have k1:=(hbw.cell (p:=⟨g,o+k*3+1,none⟩) (Nat.lt_of_lt_of_le hgb hB)).trans k1
   have k2:=(hbw.cell (p:=⟨g,o+k*3+2,none⟩) (Nat.lt_of_lt_of_le hgb hB)).trans k2
   have hgs:g<wr.heap.size:=by omega
   have hft:=HF.out.r _ (List.getElem_mem hlt)
   have HRU:=aA (fun(y:World) (h:One w #[.slice AT G.ts.length cT,.slice AN G.ns.length cN,.slice (some ⟨g,o,none⟩) G.rs.length cR,.int .i64 G.st] y)=>zho _ G B G.rs[k] A' c' y (HG.out.below h.below hB) (hri.keep fun g o hg=>h.below.cell (p:=⟨g,o,none⟩) (Nat.lt_of_lt_of_le hg hB)) hft.2.2 (Nat.le_trans hB h.below.size))
   have HN:=aA (HE.out.trans (zgb hlt z))
   have hil:=hft.1
   unfold Gm.In at hil
   clear hc hbw hft hri
   generalize G.rs[k]=x at *
   by_cases c1:x.l<0
   ·have HX:Hid (Gm.right G=false):=aA (HN.out.trans (if_pos (.inl c1)))
    go_wp2
    go_ret
    exact⟨aG HX.out.symm,(HB.out.alloc _).below⟩
   have c1':=Int.not_lt.1 c1
   by_cases c2:z+1<x.l
   ·have HX:Hid (Gm.right G=false):=aA (HN.out.trans (if_pos (.inr (.inl c2))))
    go_wp2
    go_ret
    exact⟨aG HX.out.symm,(HB.out.alloc _).below⟩
   have c2':=Int.not_lt.1 c2
   cases c3:Gm.rule G x
   ·have HX:Hid (Gm.right G=false):=aA (HN.out.trans (if_pos (.inr (.inr c3))))
    rw[c3]at HRU
    clear c3 c1 c2
    go_wp2_with fail
    refine(HRU.out _ (HB.out.alloc _)).mono ?_;rintro _ w4 ⟨rfl,hb4⟩
    have HB4:=aA ((HB.out.alloc _).on hb4)
    clear hb4
    go_wp2
    go_ret
    exact⟨aG HX.out.symm,HB4.out.below⟩
   ·have HN2:=aA (HN.out.trans (if_neg (by rw[c3];simp;omega)))
    rw[c3]at HRU
    clear c3 c1 c2
    by_cases c4:z<x.l
    ·have HX:=aA (HN2.out.trans (by rw[if_pos c4]))
     go_wp2_with fail
     refine(HRU.out _ (HB.out.alloc _)).mono ?_;rintro _ w4 ⟨rfl,hb4⟩
     have HB4:=aA ((HB.out.alloc _).on hb4)
     have hbb:=(hb4.block wr.heap.size (by simp)).trans (heap_alloc_new wr _)
     have hz4:wr.heap.size<w4.heap.size:=(Array.getElem?_eq_some_iff.1 hbb).1
     have f0:=cell_of_row w4 _ 0 _ _ _ hbb
     clear hb4 hbb
     go_wp2
     go_roundw
     case rel=>exact⟨k+1,x.l,by omega,by go_num,rfl,by omega,HX,HB4.out⟩
     case measure=>simp[intOf];omega
    ·have HX:=aA (HN2.out.trans (by rw[if_neg c4]))
     have c4':=Int.not_lt.1 c4
     clear c4
     go_wp2_with fail
     refine(HRU.out _ (HB.out.alloc _)).mono ?_;rintro _ w4 ⟨rfl,hb4⟩
     have HB4:=aA ((HB.out.alloc _).on hb4)
     have hbb:=(hb4.block wr.heap.size (by simp)).trans (heap_alloc_new wr _)
     have hz4:wr.heap.size<w4.heap.size:=(Array.getElem?_eq_some_iff.1 hbb).1
     have f0:=cell_of_row w4 _ 0 _ _ _ hbb
     clear hb4 hbb
     go_wp2
     go_roundw
     case rel=>exact⟨k+1,z,by omega,by go_num,rfl,by omega,HX,HB4.out⟩
     case measure=>simp[intOf];omega
  ·obtain rfl:k=G.rs.length:=by omega
   have HX:=aA (HE.out.trans (zhk (Nat.le_refl _) z))
   clear hbw
   go_wp2
   go_ret
   exact⟨aG HX.out.symm,HB.out.below⟩
end Go.Proofs.YtkfelkpilaipnaaGreatDoor
namespace Go.Mw
open Go.RowKit Go.Maps
structure Enc (P:Program) (kt:TypeId) (κ:Type) where
 enc:κ→Value
 ok:κ→Prop
 key:∀x,ok x→∃l,keyOf P kt (enc x)=some l
 inj:∀x y,ok x→ok y→enc x=enc y→x=y
section
variable {κ:Type} [DecidableEq κ] {α:Type}
def asc:List (κ×α)→κ→Option α
 | [],_=>none
 | (k,v)::r,x=>if k=x then some v else asc r x
theorem zf0 {l:List (κ×α)} {x:κ}:asc l x=none ↔ ∀p∈l,p.1≠x:=by
 induction l with
 | nil=>simp[asc]
 | cons p r ih =>
  obtain⟨k,v⟩:=p
  unfold asc
  by_cases h:k=x
  ·rw[if_pos h];simp[h]
  ·rw[if_neg h,ih];simp[h]
theorem asc_mem {l:List (κ×α)} {x:κ} {v:α} (h:asc l x=some v):(x,v)∈l:=by
 induction l with
 | nil=>simp[asc]at h
 | cons p r ih =>
  obtain⟨k,u⟩:=p
  unfold asc at h
  by_cases hk:k=x
  ·rw[if_pos hk]at h;injection h with h;subst h hk;simp
  ·rw[if_neg hk]at h;exact List.mem_cons_of_mem _ (ih h)
theorem asc_of_mem {l:List (κ×α)} {x:κ} {v:α} (hn:(l.map Prod.fst).Nodup) (h:(x,v)∈l):asc l x=some v:=by
 induction l with
 | nil=>simp at h
 | cons p r ih =>
  obtain⟨k,u⟩:=p
  rw[List.map_cons,List.nodup_cons]at hn
  unfold asc
  rcases List.mem_cons.1 h with e|e
  ·injection e with e1 e2;subst e1 e2;rw[if_pos rfl]
  ·have:k≠x:=fun q=>hn.1 (by rw[q];exact List.mem_map.2 ⟨(x,v),e,rfl⟩)
   rw[if_neg this];exact ih hn.2 e
theorem asc_snoc {l:List (κ×α)} {k x:κ} {v:α} (h:asc l k=none):asc (l++[(k,v)]) x=if k=x then some v else asc l x:=by
 induction l with
 | nil=>simp[asc]
 | cons p r ih =>
  obtain⟨k',u⟩:=p
  unfold asc at h
  split at h
  ·cases h
  ·rename_i hk
   rw[List.cons_append]
   show(if k'=x then some u else asc (r++[(k,v)]) x)=if k=x then some v else if k'=x then some u else asc r x
   rw[ih h]
   by_cases h1:k'=x
   ·rw[if_pos h1,if_pos h1,if_neg (fun e=>hk (h1.trans e.symm))]
   ·rw[if_neg h1,if_neg h1]
end
section
variable {P:Program} {kt:TypeId} {κ:Type}
def MapIs (E:Enc P kt κ) (w:World) (b:Nat) (l:List (κ×Value)):Prop :=
 ∃es clock,w.heap[b]?=some (.map es clock)∧es.toList.map (fun e=>(e.key,e.val))=l.map (fun p=>(E.enc p.1,p.2))∧(∀p∈l,E.ok p.1)∧(l.map Prod.fst).Nodup
variable {E:Enc P kt κ} {w:World} {b:Nat} {l:List (κ×Value)}
theorem MapIs.made (E:Enc P kt κ) (w:World):MapIs E (w.alloc (.map #[] 0)) w.heap.size [] :=
 ⟨#[],0,(MapKept.heap_alloc w _).1,rfl,by simp,by simp⟩
theorem MapIs.lt (h:MapIs E w b l):b<w.heap.size:=by
 obtain⟨es,clock,hb,_⟩:=h
 exact(Array.getElem?_eq_some_iff.1 hb).1
theorem MapIs.kept {w':World} {row:Option Nat} (h:MapIs E w b l) (hg:w.grownBy w' row) (hne:some b≠row):MapIs E w' b l:=by
 have hlt:=h.lt
 obtain⟨es,clock,hb,r⟩:=h
 exact⟨es,clock,(hg.block b hlt hne).trans hb,r⟩
theorem MapIs.block {w':World} (h:MapIs E w b l) (hg:w'.heap[b]?=w.heap[b]?):MapIs E w' b l:=by
 obtain⟨es,clock,hb,r⟩:=h
 exact⟨es,clock,hg.trans hb,r⟩
theorem MapIs.not_cells (h:MapIs E w b l) {cs:Array Value} {t:TypeId} {f:Nat×Nat}:w.heap[b]? ≠ some (.cells cs t f):=by
 obtain⟨es,clock,hb,_⟩:=h
 rw[hb];intro e;cases e
theorem run_len {t e:TypeId} (h:MapIs E w b l) (ht:P.underlying t=some (.map kt e)) (ty:TypeId):(Builtin.len_ #[t] ty #[.map (some b)]).run P w=.ok (.int .i64 (l.length:Nat)) w:=by
 obtain⟨es,clock,hb,he,_⟩:=h
 have e1:es.size=l.length:=by have:=congrArg List.length he;simpa using this
 simp[Builtin.len_,run_underlying ht,MapKept.run_getObj_map hb,goInt,Result.andThen,e1]
variable [DecidableEq κ]
theorem find_in (h:MapIs E w b l) (K:Keyed P kt) {x:κ} (hx:E.ok x):∃es clock,w.heap[b]?=some (.map es clock)∧es.toList.map (fun e=>(e.key,e.val))=l.map (fun p=>(E.enc p.1,p.2)) ∧
  (((Instr.findKey kt (E.enc x) es.toList).run P w=.ok none w∧asc l x=none) ∨ ∃(j:Nat) (e:MapEntry),(Instr.findKey kt (E.enc x) es.toList).run P w=.ok (some (j,e.val)) w∧es.toList[j]?=some e∧e.key=E.enc x∧asc l x=some e.val∧l[j]?=some (x,e.val)):=by
 obtain⟨es,clock,hb,he,hk,hn⟩:=h
 refine⟨es,clock,hb,he,?_⟩
 obtain⟨lx,hlx⟩:=E.key x hx
 have hkeys:∀e∈es.toList,∃l,keyOf P kt e.key=some l:=by
  intro e hm
  have:(e.key,e.val)∈es.toList.map (fun e=>(e.key,e.val)):=List.mem_map.2 ⟨e,hm,rfl⟩
  rw[he]at this
  obtain⟨p,hp,e1⟩:=List.mem_map.1 this
  injection e1 with e1 _
  rw[←e1]
  exact E.key p.1 (hk p hp)
 rcases K.find w hlx es.toList hkeys with⟨h1,h2⟩|⟨j,e,h1,h2,h3⟩
 ·refine .inl ⟨h1,zf0.2 fun p hp q=>?_⟩
  have:(E.enc p.1,p.2)∈es.toList.map (fun e=>(e.key,e.val)):=by rw[he];exact List.mem_map.2 ⟨p,hp,rfl⟩
  obtain⟨e,hm,e1⟩:=List.mem_map.1 this
  injection e1 with e1 _
  exact h2 e hm (by rw[e1,q])
 ·refine .inr ⟨j,e,h1,h2,h3,?_⟩
  have hj:(es.toList.map (fun e=>(e.key,e.val)))[j]?=some (e.key,e.val):=by rw[List.getElem?_map,h2];rfl
  rw[he,List.getElem?_map]at hj
  obtain⟨p,hp,e1⟩:=Option.map_eq_some_iff.1 hj
  injection e1 with e1 e2
  have hpm:p∈l:=List.mem_of_getElem? hp
  have hpx:p.1=x:=E.inj _ _ (hk p hpm) hx (e1.trans h3)
  have hpe:p=(x,e.val):=by rw[←hpx,←e2]
  rw[hpe]at hp hpm
  exact⟨asc_of_mem hn hpm,hp⟩
theorem run_look {t e:TypeId} (h:MapIs E w b l) (K:Keyed P kt) (ht:P.underlying t=some (.map kt e)) {z:Value} (hz:(zeroValue e).run P w=.ok z w) {x:κ} (hx:E.ok x) (c:Bool) :
  (Instr.lookup t (.map (some b)) (E.enc x) c).run P w=.ok (if c then .tuple #[(asc l x).getD z,.bool (asc l x).isSome] else(asc l x).getD z) w:=by
 obtain⟨lx,hlx⟩:=E.key x hx
 obtain⟨es,clock,hb,_,hf⟩:=find_in h K hx
 rcases hf with⟨h1,h2⟩|⟨j,e0,h1,_,_,h2,_⟩
 ·rw[h2]
  simp[Instr.lookup,run_underlying ht,MapKept.run_getObj_map hb,K.check w _ hlx,h1,hz,Result.andThen]
 ·rw[h2]
  simp[Instr.lookup,run_underlying ht,MapKept.run_getObj_map hb,K.check w _ hlx,h1,Result.andThen]
theorem run_store {t e:TypeId} (h:MapIs E w b l) (K:Keyed P kt) (ht:P.underlying t=some (.map kt e)) {x:κ} (hx:E.ok x) (v:Value) (hv:asc l x=none∨asc l x=some v) :
  ∃w',(Instr.mapUpdate t (.map (some b)) (E.enc x) v).run P w=.ok () w'∧MapIs E w' b (if asc l x=none then l++[(x,v)] else l)∧w.grownBy w' (some b):=by
 obtain⟨lx,hlx⟩:=E.key x hx
 have h0:=h
 obtain⟨es,clock,hb,he,hf⟩:=find_in h K hx
 obtain⟨es0,clock0,hb0,he0,hk,hn⟩:=h0
 rw[hb]at hb0
 injection hb0 with hb0
 injection hb0 with hb0 hb1
 subst hb0 hb1
 rcases hf with⟨h1,h2⟩|⟨j,e0,h1,h2,h3,h4,h5⟩
 ·rw[if_pos h2]
  refine⟨ChangeMaps.setBlock w b (.map (es.push ⟨E.enc x,v,clock⟩) (clock+1)),?_,⟨_,_,ChangeMaps.heap_setBlock_same hb _,?_,?_,?_⟩,⟨rfl,rfl,rfl,by simp[ChangeMaps.setBlock],fun i _ hi=>ChangeMaps.heap_setBlock_other hb _ (fun e=>hi (by rw[e]))⟩⟩
  ·simp[Instr.mapUpdate,run_underlying ht,MapKept.run_getObj_map hb,K.check w false hlx,h1,MapKept.run_setObj_map _ hb,Result.andThen,ChangeMaps.setBlock]
  ·rw[Array.toList_push,List.map_append,List.map_append,he];rfl
  ·intro p hp
   rcases List.mem_append.1 hp with q|q
   ·exact hk p q
   ·rw[List.mem_singleton]at q;subst q;exact hx
  ·rw[List.map_append,List.nodup_append]
   refine⟨hn,by simp,fun a ha c hc=>?_⟩
   obtain⟨p,hp,rfl⟩:=List.mem_map.1 ha
   simp only[List.map_cons,List.map_nil,List.mem_singleton]at hc
   subst hc
   exact zf0.1 h2 p hp
 ·have hve:v=e0.val:=by
   rcases hv with q|q
   ·rw[h4]at q;cases q
   ·rw[h4]at q;injection q with q;exact q.symm
  rw[if_neg (by rw[h4];simp)]
  have hj:es[j]?=some e0:=by simpa using h2
  have hmod:(es.modify j (fun e=>{e with key:=E.enc x,val:=v})).toList.map (fun e=>(e.key,e.val))=es.toList.map (fun e=>(e.key,e.val)):=by
   rw[Array.toList_modify,ChangeMaps.modify_eq_set _ _ _ _ h2,List.map_set]
   have hjl:j<(es.toList.map (fun e=>(e.key,e.val))).length:=by rw[List.length_map];exact(List.getElem?_eq_some_iff.1 h2).1
   apply List.ext_getElem?
   intro i
   rw[List.getElem?_set]
   by_cases hij:j=i
   ·subst hij
    rw[if_pos rfl,if_pos hjl,List.getElem?_map,h2,←h3,hve]
    rfl
   ·rw[if_neg hij]
  refine⟨ChangeMaps.setBlock w b (.map (es.modify j (fun e=>{e with key:=E.enc x,val:=v})) clock),?_,⟨_,_,ChangeMaps.heap_setBlock_same hb _,hmod.trans he,hk,hn⟩,⟨rfl,rfl,rfl,by simp[ChangeMaps.setBlock],fun i _ hi=>ChangeMaps.heap_setBlock_other hb _ (fun e=>hi (by rw[e]))⟩⟩
  simp[Instr.mapUpdate,run_underlying ht,MapKept.run_getObj_map hb,K.check w false hlx,h1,hj,h3,K.stays w hlx,MapKept.run_setObj_map _ hb,Result.andThen,ChangeMaps.setBlock]
end
theorem wpList_store {P:Program} {w:World} {ops:Array Oper} {rest:List Oper} {o:Oper} {a:Act} {Q:Exit→Act→World→Prop}
  (hg:o.guard=none) (m x v:Operand) (t:TypeId) (hop:o.op=Op.mapUpdate t m x v) {mv xv vv:Value} {R:World→Prop} (h:∃w',(Instr.mapUpdate t mv xv vv).run P w=.ok () w'∧R w') (hm:a.eval m=mv) (hx:a.eval x=xv) (hv:a.eval v=vv)
  (hK:∀w',R w'→wpList P ops Q rest (a.put o.dst undef) w'):wpList P ops Q (o::rest) a w:=by
 refine wpList_plain hg fun K' hK'=>?_
 obtain⟨w',hrun,hR⟩:=h
 unfold Oper.wp
 simp[execOp,hop,hm,hx,hv,hrun,Result.andThen]
 exact hK' _ _ (hK w' hR)
end Go.Mw
namespace Go.Proofs.YtkfelkpilaipnaaGreatDoor
end Go.Proofs.YtkfelkpilaipnaaGreatDoor
namespace Go.Proofs.YtkfelkpilaipnaaGreatDoor
set_option maxRecDepth 100000
set_option maxHeartbeats 40000000
open Go.RowKit
def bT:Mw.Enc Tryz.prog 9 (List Int) where
 enc s:=.string (K.str s)
 ok:=K.Tx
 key s h:=⟨_,Go.WideMaps.keyOf_string_mk Tryz.underlying9 (by rw[K.str_size];unfold maxLen;exact h.2)⟩
 inj x y hx hy h:=by injection h with h;exact(K.str_eq hx.1 hy.1).1 h
theorem zgU:Maps.Keyed Tryz.prog 9:=Maps.string_keyed Tryz.underlying9
theorem zbn (s:List Int) (hs:K.Tx s) (w:World) :
  Calls Tryz.prog 66 #[.string (K.str s)] w fun e w'=>e=.returned (.bool (Gm.named s))∧Below w.heap.size w w':=by
 have HN:=aA (fun w=>zbw s hs.1 w)
 have HL:=aA (fun w=>zcs s hs.1 hs.2 w)
 unfold Gm.named
 clear hs
 cases q:T.isName s
 ·rw[q]at HN
  clear q
  generalize T.isLit s=b at *
  go_enter Tryz.func66,Tryz.ntmps66
  go_wp2_with fail
  refine(HN.out _).mono ?_;rintro _ w1 ⟨rfl,hb⟩
  have HB:=aA hb
  clear hb
  go_wp2_with fail
  refine(HL.out _).mono ?_;rintro _ _ ⟨rfl,rfl⟩
  go_wp2
  go_ret
  exact⟨aG (by simp),HB.out⟩
 ·rw[q]at HN
  clear q
  go_enter Tryz.func66,Tryz.ntmps66
  go_wp2_with fail
  refine(HN.out _).mono ?_;rintro _ w1 ⟨rfl,hb⟩
  have HB:=aA hb
  clear hb
  go_wp2
  go_ret
  exact⟨aG (by simp),HB.out⟩
def dd:List (List Int)→List (List Int)→List (List Int)
 | acc,[]=>acc
 | acc,s::r=>dd (if s∈acc then acc else acc++[s]) r
theorem zkB (acc l:List (List Int)) (s:List Int):dd acc (l++[s])=if s∈dd acc l then dd acc l else dd acc l++[s]:=by
 induction l generalizing acc with
 | nil=>rfl
 | cons x r ih=>rw[List.cons_append,dd,dd,ih]
theorem zlh (acc l:List (List Int)) (hn:acc.Nodup):(dd acc l).length≤acc.length+l.length∧((dd acc l).length=acc.length+l.length↔(acc++l).Nodup):=by
 induction l generalizing acc with
 | nil=>simp[dd,hn]
 | cons x r ih =>
  rw[dd]
  by_cases hx:x∈acc
  ·rw[if_pos hx]
   have:=(ih acc hn).1
   refine⟨by rw[List.length_cons];omega,⟨fun e=>by rw[List.length_cons]at e;omega,fun h=>?_⟩⟩
   rw[List.nodup_append]at h
   exact absurd rfl (h.2.2 x hx x (by simp))
  ·rw[if_neg hx]
   have hn':(acc++[x]).Nodup:=by
    rw[List.nodup_append]
    exact⟨hn,by simp,fun a ha b hb e=>by rw[List.mem_singleton]at hb;subst hb e;exact hx ha⟩
   have:=ih (acc++[x]) hn'
   rw[List.length_append,List.length_singleton,List.append_assoc,List.singleton_append]at this
   refine⟨by have:=this.1;rw[List.length_cons];omega,?_⟩
   rw[←this.2,List.length_cons]
   omega
def nmL (l:List (List Int)):List (List Int×Value):=(dd [] l).map fun s=>(s,.bool true)
theorem ziw (l:List (List Int)) (s:List Int):Mw.asc (nmL l) s=if s∈dd [] l then some (.bool true) else none:=by
 unfold nmL
 generalize dd [] l=m
 induction m with
 | nil=>rfl
 | cons x r ih =>
  rw[List.map_cons,Mw.asc,ih]
  by_cases h:x=s
  ·subst h;simp
  ·rw[if_neg h]
   have:s≠x:=fun e=>h e.symm
   simp[this]
theorem zfJ (l:List (List Int)) (s:List Int):(if Mw.asc (nmL l) s=none then nmL l++[(s,.bool true)] else nmL l)=nmL (l++[s]):=by
 rw[ziw]
 unfold nmL
 rw[zkB]
 by_cases h:s∈dd [] l
 ·rw[if_pos h,if_pos h];rfl
 ·rw[if_neg h,if_neg h,if_pos rfl,List.map_append];rfl
theorem zjX (l:List (List Int)) (s:List Int):Mw.asc (nmL l) s=none∨Mw.asc (nmL l) s=some (.bool true):=by
 rw[ziw]
 split
 ·exact .inr rfl
 ·exact .inl rfl
def rnB (G:Gm.Gr):Bool:=decide (G.ts.length≤24)&&decide (1≤G.ns.length)&&decide (G.ns.length≤16)&&(G.ts.all fun t=>Gm.named t.nm)&&(G.ns.all T.isName)&&decide ((nmL (Gm.names G.ts++G.ns)).length=G.ts.length+G.ns.length)
theorem rn_t {G:Gm.Gr} {k:Nat} (h:k<G.ts.length) (hn:Gm.named G.ts[k].nm=false):rnB G=false:=by
 unfold rnB
 have:(G.ts.all fun t=>Gm.named t.nm)=false:=List.all_eq_false.2 ⟨_,List.getElem_mem h,by rw[hn];simp⟩
 rw[this];simp
theorem rn_n {G:Gm.Gr} {k:Nat} (h:k<G.ns.length) (hn:T.isName G.ns[k]=false):rnB G=false:=by
 unfold rnB
 have:(G.ns.all T.isName)=false:=List.all_eq_false.2 ⟨_,List.getElem_mem h,by rw[hn];simp⟩
 rw[this];simp
def zfm {α:Type} (l:List α) (f:α→Bool) (k:Nat):Prop:=∀i (h:i<l.length),i<k→f l[i]=true
theorem zfm.zero {α:Type} (l:List α) (f:α→Bool):zfm l f 0:=fun _ _ h=>by omega
theorem zfm.next {α:Type} {l:List α} {f:α→Bool} {k:Nat} (h:zfm l f k) (hk:k<l.length) (hn:f l[k]=true):zfm l f (k+1):=fun i hi hik=>by
 rcases Nat.lt_or_ge i k with q|q
 ·exact h i hi q
 ·obtain rfl:i=k:=by omega
  exact hn
theorem zfm.all {α:Type} {l:List α} {f:α→Bool} (h:zfm l f l.length):l.all f=true:=by
 rw[List.all_eq_true]
 intro x hx
 obtain⟨i,hi,rfl⟩:=List.getElem_of_mem hx
 exact h i hi hi
theorem zdZ {α:Type} {l:List α} {k:Nat} (h:k<l.length):l.take (k+1)=l.take k++[l[k]]:=List.take_succ_eq_append_getElem h
theorem zcN (v:Value) (G:Gm.Gr) (B:Nat) (w:World) (hg:bC w B v G) (hf:Gm.Fit G) (hB:B≤w.heap.size) :
  Calls Tryz.prog 35 #[v] w fun e w'=>e=.returned (.bool (rnB G))∧Below w.heap.size w w':=by
 obtain⟨AT,cT,AN,cN,AR,cR,rfl,⟨hlT,hmT⟩,⟨hlN,hmN⟩,_,ht,hn,_⟩:=hg
 have HT:=aA ht
 have HN:=aA hn
 have HF:=aA hf
 have HS0:=aA (One.start w #[.slice AT G.ts.length cT,.slice AN G.ns.length cN,.slice AR G.rs.length cR,.int .i64 G.st])
 have hlenT:(G.ts.length:Int)≤9223372036854775807:=by omega
 have hlenN:(G.ns.length:Int)≤9223372036854775807:=by omega
 clear ht hn hf
 by_cases h24:24<G.ts.length
 ·have HX:Hid (rnB G=false):=aA (by unfold rnB;rw[decide_eq_false (show ¬G.ts.length≤24 by omega)];rfl)
  rw[HX.out]
  go_enter Tryz.func35,Tryz.ntmps35
  go_wp2
  go_ret
  exact⟨rfl,HS0.out.below⟩
 by_cases h0:G.ns.length<1
 ·have HX:Hid (rnB G=false):=aA (by unfold rnB;rw[decide_eq_false (show ¬1≤G.ns.length by omega)];simp)
  have e0:((G.ns.length:Int)==0)=true:=beq_iff_eq.2 (by omega)
  rw[HX.out]
  clear h0
  go_enter Tryz.func35,Tryz.ntmps35
  go_wp2
  go_ret
  exact⟨rfl,HS0.out.below⟩
 have e0:((G.ns.length:Int)==0)=false:=beq_eq_false_iff_ne.2 (by omega)
 by_cases h16:16<G.ns.length
 ·have HX:Hid (rnB G=false):=aA (by unfold rnB;rw[decide_eq_false (show ¬G.ns.length≤16 by omega)];simp)
  rw[HX.out]
  clear h0
  go_enter Tryz.func35,Tryz.ntmps35
  go_wp2
  go_ret
  exact⟨rfl,HS0.out.below⟩
 clear h0
 have hmm:=@run_makeMap Tryz.prog
 have HM0:=aA (Mw.MapIs.made bT (w.alloc (.cells #[.slice AT G.ts.length cT,.slice AN G.ns.length cN,.slice AR G.rs.length cR,.int .i64 G.st] 26)))
 have hs1:(w.alloc (.cells #[.slice AT G.ts.length cT,.slice AN G.ns.length cN,.slice AR G.rs.length cR,.int .i64 G.st] 26)).heap.size=w.heap.size+1:=by simp
 rw[hs1]at HM0
 have HS1:=aA (HS0.out.alloc (.map #[] 0))
 clear hs1
 go_enter Tryz.func35,Tryz.ntmps35
 go_wp2
 go_loopw [28] (fun vi wr=>∃(k:Nat),k≤G.ts.length∧vi=.int .i64 k∧Hid (zfm G.ts (fun t=>Gm.named t.nm) k)∧One w #[.slice AT G.ts.length cT,.slice AN G.ns.length cN,.slice AR G.rs.length cR,.int .i64 G.st] wr∧Hid (Mw.MapIs bT wr (w.heap.size+1) (nmL (Gm.names (G.ts.take k))))) (fun vi _=>G.ts.length-(intOf vi).toNat)
 case atStart=>exact⟨0,Nat.zero_le _,rfl,aA (zfm.zero _ _),HS1.out,HM0⟩
 case round =>
  obtain⟨k,hk,rfl,HA,hb,HM⟩:=hrel
  have HB:=aA hb
  have hz:w.heap.size<wr.heap.size:=hb.size
  have hz1:w.heap.size+1<wr.heap.size:=HM.out.lt
  have hbw:=hb.below
  have q1:=hb.c 1 _ rfl
  clear hb
  by_cases hlt:k<G.ts.length
  ·obtain⟨g,o,rfl,hgb,hc⟩:=HT.out (by omega)
   have k0:=(hbw.cell (p:=⟨g,o+k*3,none⟩) (Nat.lt_of_lt_of_le hgb hB)).trans (hc k hlt).1
   have k1:=(hbw.cell (p:=⟨g,o+k*3+1,none⟩) (Nat.lt_of_lt_of_le hgb hB)).trans (hc k hlt).2.1
   have k2:=(hbw.cell (p:=⟨g,o+k*3+2,none⟩) (Nat.lt_of_lt_of_le hgb hB)).trans (hc k hlt).2.2
   have hgs:g<wr.heap.size:=by omega
   have hft:=(HF.out.t _ (List.getElem_mem hlt)).1
   have HNM:=aA (fun x=>zbn _ hft x)
   have HTX:=aA hft
   have HA':=aA (fun h=>HA.out.next hlt h)
   have HNO:=aA (fun h=>rn_t hlt h)
   have HNX:Hid (nmL (Gm.names (G.ts.take k)++[G.ts[k].nm])=nmL (Gm.names (G.ts.take (k+1)))):=aA (by rw[zdZ hlt];unfold Gm.names;rw[List.map_append];rfl)
   clear hc hbw hft
   generalize G.ts[k].nm=nm at *
   generalize G.ts[k].lv=lv at *
   generalize G.ts[k].wy=wy at *
   cases q:Gm.named nm
   ·have HX:=aA (HNO.out q)
    rw[q]at HNM
    clear q
    go_wp2_with fail
    refine(HNM.out _).mono ?_;rintro _ w2 ⟨rfl,hb2⟩
    have HB2:=aA ((HB.out.alloc _).on hb2)
    clear hb2
    go_wp2
    go_ret
    exact⟨aG HX.out.symm,HB2.out.below⟩
   ·have HX:=aA (HA'.out q)
    rw[q]at HNM
    clear q
    go_wp2_with fail
    refine(HNM.out _).mono ?_;rintro _ w2 ⟨rfl,hb2⟩
    have HB2:=aA ((HB.out.alloc _).on hb2)
    have hbb:=(hb2.block wr.heap.size (by simp)).trans (heap_alloc_new wr _)
    have hz2:wr.heap.size<w2.heap.size:=(Array.getElem?_eq_some_iff.1 hbb).1
    have f0:=cell_of_row w2 _ 0 _ _ _ hbb
    have HM2:=aA ((HM.out.kept (World.grownBy_alloc wr _ none) (by simp)).kept (aQ hb2 none) (by simp))
    clear hb2 hbb
    have HST:=aA (Mw.run_store (x:=nm) HM2.out zgU Tryz.underlying88 HTX.out (.bool true) (zjX _ _))
    go_wp2_with (at_mapUpdate;refine Mw.wpList_store rfl _ _ _ _ rfl HST.out rfl rfl rfl ?_;rintro w3 ⟨hm3,hg3⟩)
    have HB3:=aA (Below.grown HB2.out hg3 HB2.out.size (fun k e=>by injection e with e;omega))
    have HM3:Hid (Mw.MapIs bT w3 (w.heap.size+1) (nmL (Gm.names (G.ts.take (k+1))))):=aA (by rw[←HNX.out,←zfJ];exact hm3)
    clear hm3 hg3
    go_roundw
    case rel=>exact⟨k+1,by omega,by go_num,HX,HB3.out,HM3⟩
    case measure=>simp[intOf];omega
  ·obtain rfl:k=G.ts.length:=by omega
   have HA1:=aA HA.out.all
   have HM1:Hid (Mw.MapIs bT wr (w.heap.size+1) (nmL (Gm.names G.ts++G.ns.take 0))):=aA (by have h:=HM.out;rw[List.take_length]at h;rw[List.take_zero,List.append_nil];exact h)
   clear hbw hk hlt HA HM
   go_wp2
   go_loopw [43] (fun vi wr=>∃(k:Nat),k≤G.ns.length∧vi=.int .i64 k∧Hid (zfm G.ns T.isName k)∧One w #[.slice AT G.ts.length cT,.slice AN G.ns.length cN,.slice AR G.rs.length cR,.int .i64 G.st] wr∧Hid (Mw.MapIs bT wr (w.heap.size+1) (nmL (Gm.names G.ts++G.ns.take k)))) (fun vi _=>G.ns.length-(intOf vi).toNat)
   case atStart=>exact⟨0,Nat.zero_le _,rfl,aA (zfm.zero _ _),HB.out,HM1⟩
   case round =>
    clear q1 hz hz1 HB HM1
    obtain⟨k,hk,rfl,HA,hb,HM⟩:=hrel
    have HB:=aA hb
    have hz:w.heap.size<wr.heap.size:=hb.size
    have hz1:w.heap.size+1<wr.heap.size:=HM.out.lt
    have hbw:=hb.below
    have q0:=hb.c 0 _ rfl
    have q1:=hb.c 1 _ rfl
    clear hb
    by_cases hlt:k<G.ns.length
    ·obtain⟨g,o,rfl,hgb,hc⟩:=HN.out (by omega)
     have k0:=(hbw.cell (p:=⟨g,o+k,none⟩) (Nat.lt_of_lt_of_le hgb hB)).trans (hc k hlt)
     have hgs:g<wr.heap.size:=by omega
     have hft:=HF.out.n _ (List.getElem_mem hlt)
     have HNM:=aA (fun x=>zbw _ hft.1 x)
     have HTX:=aA hft
     have HA':=aA (fun h=>HA.out.next hlt h)
     have HNO:=aA (fun h=>rn_n hlt h)
     have HNX:Hid (nmL (Gm.names G.ts++G.ns.take k++[G.ns[k]])=nmL (Gm.names G.ts++G.ns.take (k+1))):=aA (by rw[zdZ hlt,List.append_assoc])
     obtain⟨s,qs⟩:∃t,t=G.ns[k]:=⟨_,rfl⟩
     rw[←qs]at k0 HNM HTX HA' HNO HNX
     clear hc hbw hft qs
     cases q:T.isName s
     ·have HX:=aA (HNO.out q)
      rw[q]at HNM
      clear q
      go_wp2_with fail
      refine(HNM.out _).mono ?_;rintro _ w2 ⟨rfl,hb2⟩
      have HB2:=aA (HB.out.on hb2)
      clear hb2
      go_wp2
      go_ret
      exact⟨aG HX.out.symm,HB2.out.below⟩
     ·have HX:=aA (HA'.out q)
      rw[q]at HNM
      clear q
      go_wp2_with fail
      refine(HNM.out _).mono ?_;rintro _ w2 ⟨rfl,hb2⟩
      have HB2:=aA (HB.out.on hb2)
      have HM2:=aA (HM.out.kept (aQ hb2 none) (by simp))
      clear hb2
      have HST:=aA (Mw.run_store (x:=s) HM2.out zgU Tryz.underlying88 HTX.out (.bool true) (zjX _ _))
      go_wp2_with (at_mapUpdate;refine Mw.wpList_store rfl _ _ _ _ rfl HST.out rfl rfl rfl ?_;rintro w3 ⟨hm3,hg3⟩)
      have HB3:=aA (Below.grown HB2.out hg3 HB2.out.size (fun k e=>by injection e with e;omega))
      have HM3:Hid (Mw.MapIs bT w3 (w.heap.size+1) (nmL (Gm.names G.ts++G.ns.take (k+1)))):=aA (by rw[←HNX.out,←zfJ];exact hm3)
      clear hm3 hg3
      go_roundw
      case rel=>exact⟨k+1,by omega,by go_num,HX,HB3.out,HM3⟩
      case measure=>simp[intOf];omega
    ·obtain rfl:k=G.ns.length:=by omega
     have HA2:=aA HA.out.all
     have HM1:Hid (Mw.MapIs bT wr (w.heap.size+1) (nmL (Gm.names G.ts++G.ns))):=aA (by have h:=HM.out;rw[List.take_length]at h;exact h)
     have hL:=Mw.run_len HM1.out Tryz.underlying88 3
     have HX:Hid (rnB G=(((nmL (Gm.names G.ts++G.ns)).length:Int)==(G.ts.length:Int)+(G.ns.length:Int))):=aA (by
      unfold rnB
      rw[HA1.out,HA2.out,decide_eq_true (show G.ts.length≤24 by omega),decide_eq_true (show 1≤G.ns.length by have:=beq_eq_false_iff_ne.1 e0;omega),decide_eq_true (show G.ns.length≤16 by omega)]
      simp only[Bool.true_and]
      rw[Bool.eq_iff_iff]
      simp only[decide_eq_true_eq,beq_iff_eq]
      omega)
     generalize (nmL (Gm.names G.ts++G.ns)).length=m at *
     clear hbw hk hlt HA HM HM1
     go_wp2_with (simp only[hL])
     go_ret
     exact⟨aG HX.out.symm,HB.out.below⟩
end Go.Proofs.YtkfelkpilaipnaaGreatDoor
namespace Go.Proofs.YtkfelkpilaipnaaGreatDoor
set_option maxRecDepth 100000
set_option maxHeartbeats 40000000
namespace Gm
inductive R (α:Type) where
 | ok:α→R α
 | bad:Tok→Int→R α
def R.bind {α β:Type} (r:R α) (f:α→R β):R β:=match r with | .ok a=>f a | .bad x e=>.bad x e
theorem R.bind_ok {α β:Type} (a:α) (f:α→R β):(R.ok a).bind f=f a:=rfl
theorem R.bind_bad {α β:Type} (x:Tok) (e:Int) (f:α→R β):(R.bad x e:R α).bind f=.bad x e:=rfl
theorem R.bind_eq {α β:Type} {x:R α} {f:α→R β} {b:β} (h:x.bind f=.ok b):∃a,x=.ok a∧f a=.ok b:=by
 cases x with
 | ok a=>exact⟨a,rfl,h⟩
 | bad x e=>cases h
def put (ts:List Tm) (x:Tok):R (List Tm×Int) :=
 if 0≤find (names ts) x.t then .ok (ts,find (names ts) x.t) else if ts.length=24 then .bad x 5 else .ok (ts++[⟨x.t,0,0⟩],ts.length)
structure S1 where
 ts:List Tm
 tk:List (List Int)
 st:Option Tok
 lv:Int
def decl1 (k:Int) (S:S1) (x:Tok):R S1 :=
 if k=7 then(if S.st.isSome then .bad x 7 else .ok {S with st:=some x})
 else if k=3 then(if x.t∈S.tk then .bad x 7 else(put S.ts x).bind fun p=>.ok {S with ts:=p.1,tk:=S.tk++[x.t]})
 else if 0≤find (names S.ts) x.t∧0<(S.ts.map Tm.lv).getD (find (names S.ts) x.t).toNat 0 then .bad x 7
 else(put S.ts x).bind fun p=>.ok {S with ts:=p.1.modify p.2.toNat fun t=>⟨t.nm,S.lv,k-3⟩}
def declN (k:Int):S1→List Tok→R S1
 | S,[]=>.ok S
 | S,x::r=>(decl1 k S x).bind fun S=>declN k S r
def up (k:Int) (S:S1):S1:=if k=3∨k=7 then S else {S with lv:=S.lv+1}
def decls:S1→List Y.Dcl→R S1
 | S,[]=>.ok S
 | S,d::r=>(declN d.k (up d.k S) d.ns).bind fun S=>decls S r
def left1 (ts:List Tm) (ns:List (List Int)) (x:Tok):R (List (List Int)) :=
 if 0≤find (names ts) x.t then .bad x 7 else if 0≤find ns x.t then .ok ns else if ns.length=16 then .bad x 5 else .ok (ns++[x.t])
def lefts (ts:List Tm):List (List Int)→List Y.Prd→R (List (List Int))
 | ns,[]=>.ok ns
 | ns,p::r=>(left1 ts ns p.l).bind fun ns=>lefts ts ns r
def sym (ts:List Tm) (x:Tok):R (List Tm×Int) :=
 if 0≤find (names ts) x.t∨T.isLit x.t=true∨x.t=[101,114,114,111,114] then put ts x else .bad x 6
def symR (ns:List (List Int)) (ts:List Tm) (x:Tok):R (List Tm×Int):=if 0≤find ns x.t then .ok (ts,-1-find ns x.t) else sym ts x
def symP (ns:List (List Int)) (ts:List Tm) (x:Tok):R (List Tm×Int):=if 0≤find ns x.t then .bad x 6 else sym ts x
def rights (ns:List (List Int)):List Tm→List Int→Int→List Tok→R (List Tm×List Int×Int)
 | ts,acc,p,[]=>.ok (ts,acc,p)
 | ts,acc,p,x::r=>if acc.length=6 then .bad x 5 else(symR ns ts x).bind fun q=>rights ns q.1 (acc++[q.2]) (if 0≤q.2 then q.2 else p) r
def prod1 (ns:List (List Int)) (ts:List Tm) (rs:List Rl) (p:Y.Prd):R (List Tm×List Rl) :=
 if rs.length=40 then .bad p.l 5 else(rights ns ts [] (-1) p.r).bind fun q=>match p.p with
  | none=>.ok (q.1,rs++[⟨find ns p.l.t,q.2.1,q.2.2⟩])
  | some x=>(symP ns q.1 x).bind fun y=>.ok (y.1,rs++[⟨find ns p.l.t,q.2.1,y.2⟩])
def prods (ns:List (List Int)):List Tm→List Rl→List Y.Prd→R (List Tm×List Rl)
 | ts,rs,[]=>.ok (ts,rs)
 | ts,rs,p::r=>(prod1 ns ts rs p).bind fun q=>prods ns q.1 q.2 r
def start (ns:List (List Int)):Option Tok→R Int
 | none=>.ok 0
 | some x=>if 0≤find ns x.t then .ok (find ns x.t) else .bad x 8
def build (ds:List Y.Dcl) (ps:List Y.Prd):R Gr :=
 (decls ⟨[],[],none,0⟩ ds).bind fun S=>(lefts S.ts [] ps).bind fun ns=>(prods ns S.ts [] ps).bind fun q=>(start ns S.st).bind fun z=>.ok ⟨q.1,ns,q.2,z⟩
end Gm
namespace Gm
structure Good (ds:List Y.Dcl) (ps:List Y.Prd):Prop where
 k:∀d∈ds,d.k=3∨d.k=4∨d.k=5∨d.k=6∨d.k=7
 e:∀d∈ds,d.ns≠[]
 d:∀d∈ds,∀x∈d.ns,named x.t=true∧K.Bytes x.t
 s:∀d∈ds,d.k=7→∀x∈d.ns,T.isName x.t=true
 n:ps≠[]
 l:∀p∈ps,T.isName p.l.t=true∧K.Bytes p.l.t
 r:∀p∈ps,∀x∈p.r,named x.t=true∧K.Bytes x.t
 p:∀p∈ps,∀x,p.p=some x→named x.t=true∧K.Bytes x.t
structure Tin (ts:List Tm) (L:Nat) (W:Nat→Int):Prop where
 c:ts.length≤24
 nd:(names ts).Nodup
 nm:∀t∈ts,named t.nm=true∧K.Bytes t.nm
 lv:∀t∈ts,(t.lv=0∧t.wy=0) ∨ ∃n:Nat,t.lv=(n:Int)∧1≤n∧n≤L∧t.wy=W n∧1≤W n∧W n≤3
theorem Tin.nil (W:Nat→Int):Tin [] 0 W:=⟨by simp,by simp[names],by simp,by simp⟩
theorem za7 (ts:List Tm):(names ts).length=ts.length:=by simp[names]
theorem zeo (a b:List Tm):names (a++b)=names a++names b:=by simp[names]
theorem zc4 {l:List (List Int)} {s:List Int} (h:l.Nodup) (hs:s ∉ l):(l++[s]).Nodup:=by
 rw[List.nodup_append]
 exact⟨h,by simp,fun a ha b hb=>by simp at hb;subst hb;exact fun e=>hs (e▸ha)⟩
theorem put_ok {ts ts':List Tm} {x:Tok} {n:Int} (h:put ts x=.ok (ts',n)):(∃j:Nat,find (names ts) x.t=(j:Int)∧ts'=ts∧n=(j:Int)∧∃hj:j<ts.length,(ts[j]).nm=x.t)∨(x.t ∉ names ts∧ts'=ts++[⟨x.t,0,0⟩]∧n=(ts.length:Int)∧ts.length≠24):=by
 unfold put at h
 split at h
 ·rename_i h0
  injection h with h
  injection h with h1 h2
  obtain⟨i,e,hi,hs⟩:=find_some h0
  rw[za7]at hi
  exact .inl ⟨i,e,h1.symm,by rw[←h2,e],hi,by simpa[names] using hs⟩
 ·rename_i h0
  split at h
  ·cases h
  ·rename_i h24
   injection h with h
   injection h with h1 h2
   exact .inr ⟨find_none.1 (by omega),h1.symm,h2.symm,h24⟩
theorem Tin.put {ts ts':List Tm} {L:Nat} {W:Nat→Int} {x:Tok} {n:Int} (h:Tin ts L W) (hx:named x.t=true∧K.Bytes x.t) (hp:put ts x=.ok (ts',n)):Tin ts' L W:=by
 rcases put_ok hp with⟨j,_,rfl,_⟩|⟨h4,rfl,_,h5⟩
 ·exact h
 ·refine⟨by have:=h.c;simp;omega,?_,?_,?_⟩
  ·rw[zeo];exact zc4 h.nd h4
  ·intro t ht
   rcases List.mem_append.1 ht with h1|h1
   ·exact h.nm t h1
   ·simp at h1;subst h1;exact hx
  ·intro t ht
   rcases List.mem_append.1 ht with h1|h1
   ·exact h.lv t h1
   ·simp at h1;subst h1;exact .inl ⟨rfl,rfl⟩
theorem zeX {ts ts':List Tm} {x:Tok} {n:Int} (h:put ts x=.ok (ts',n)):∃r,ts'=ts++r:=by
 unfold put at h
 split at h
 ·injection h with h;injection h with h1 h2;subst h1;exact⟨[],by simp⟩
 ·split at h
  ·cases h
  ·injection h with h;injection h with h1 h2;subst h1;exact⟨_,rfl⟩
theorem mem_modify {l:List Tm} {n:Nat} {f:Tm→Tm} {t:Tm} (h:t∈l.modify n f):t∈l ∨ ∃hn:n<l.length,t=f l[n]:=by
 obtain⟨i,hi,rfl⟩:=List.getElem_of_mem h
 rw[List.length_modify]at hi
 rw[List.getElem_modify]
 split
 ·rename_i e;subst e;exact .inr ⟨hi,rfl⟩
 ·exact .inl (List.getElem_mem _)
theorem names_modify (l:List Tm) (n:Nat) (f:Tm→Tm) (hf:∀t,(f t).nm=t.nm):names (l.modify n f)=names l:=by
 unfold names
 apply List.ext_getElem
 ·simp
 ·intro i h1 h2
  simp only[List.getElem_map,List.getElem_modify]
  split
  ·rw[hf]
  ·rfl
structure Din (S:S1) (L:Nat) (W:Nat→Int) (o:Bool):Prop where
 t:Tin S.ts L W
 l:S.lv=(L:Int)
 h:∀n:Nat,1≤n→(if o then n<L else n≤L)→∃t∈S.ts,t.lv=(n:Int)
 s:∀x,S.st=some x→T.isName x.t=true
theorem Din.token {S S':S1} {L:Nat} {W:Nat→Int} {o:Bool} {x:Tok} (h:Din S L W o) (hx:named x.t=true∧K.Bytes x.t) (hd:decl1 3 S x=.ok S'):Din S' L W o:=by
 unfold decl1 at hd
 rw[if_neg (by decide),if_pos rfl]at hd
 split at hd
 ·cases hd
 ·obtain⟨⟨ts',n⟩,h1,h2⟩:=R.bind_eq hd
  injection h2 with h2
  subst h2
  refine⟨h.t.put hx h1,h.l,fun n hn hl=>?_,h.s⟩
  obtain⟨t,ht,e⟩:=h.h n hn hl
  obtain⟨r,hr⟩:=zeX h1
  exact⟨t,by simp only;rw[hr];exact List.mem_append_left _ ht,e⟩
theorem Din.start {S S':S1} {L:Nat} {W:Nat→Int} {o:Bool} {x:Tok} (h:Din S L W o) (hx:T.isName x.t=true) (hd:decl1 7 S x=.ok S'):Din S' L W o:=by
 unfold decl1 at hd
 rw[if_pos rfl]at hd
 split at hd
 ·cases hd
 ·injection hd with hd
  subst hd
  exact⟨h.t,h.l,h.h,fun y hy=>by simp only at hy;injection hy with hy;subst hy;exact hx⟩
theorem Din.prec {S S':S1} {L:Nat} {W:Nat→Int} {o:Bool} {x:Tok} {k:Int} (h:Din S L W o) (hL:1≤L) (hk:k=4∨k=5∨k=6) (hw:W L=k-3) (hx:named x.t=true∧K.Bytes x.t) (hd:decl1 k S x=.ok S'):Din S' L W false:=by
 unfold decl1 at hd
 rw[if_neg (by omega),if_neg (by omega)]at hd
 split at hd
 ·cases hd
 ·rename_i hno
  obtain⟨⟨ts',n⟩,h1,h2⟩:=R.bind_eq hd
  injection h2 with h2
  subst h2
  have ht:=h.t.put hx h1
  obtain⟨r,hr⟩:=zeX h1
  obtain⟨i,rfl,hi,hz⟩:∃i:Nat,n=(i:Int)∧∃hi:i<ts'.length,(ts'[i]).lv=0:=by
   rcases put_ok h1 with⟨j,ej,rfl,e,hj,hs⟩|⟨h4,rfl,e,_⟩
   ·refine⟨j,e,hj,?_⟩
    have hnn:(S.ts[j]).lv=0∨0<(S.ts[j]).lv:=by
     rcases h.t.lv _ (List.getElem_mem hj) with⟨e,_⟩|⟨n,e,h1,_⟩ <;> omega
    rcases hnn with q|q
    ·exact q
    ·exfalso
     apply hno
     refine⟨by omega,?_⟩
     rw[ej]
     simp only[Int.toNat_natCast,List.getD,List.getElem?_map,List.getElem?_eq_getElem hj,Option.map_some,Option.getD_some]
     exact q
   ·exact⟨S.ts.length,e,by simp,by simp⟩
  simp only[Int.toNat_natCast]
  refine⟨⟨?_,?_,?_,?_⟩,h.l,?_,h.s⟩
  ·rw[List.length_modify];exact ht.c
  ·show(names (ts'.modify i fun t=>⟨t.nm,S.lv,k-3⟩)).Nodup
   rw[names_modify _ i (fun t=>⟨t.nm,S.lv,k-3⟩) (fun _=>rfl)];exact ht.nd
  ·intro t hm
   rcases mem_modify hm with hm|⟨hn,rfl⟩
   ·exact ht.nm t hm
   ·have:=ht.nm _ (List.getElem_mem hi)
    exact this
  ·intro t hm
   rcases mem_modify hm with hm|⟨hn,rfl⟩
   ·exact ht.lv t hm
   ·exact .inr ⟨L,h.l,hL,Nat.le_refl _,hw.symm,by omega,by omega⟩
  ·intro m hm hml
   simp only[Bool.false_eq_true,if_false]at hml
   by_cases hmL:m=L
   ·subst hmL
    refine⟨_,List.getElem_mem (n:=i) (by rw[List.length_modify];exact hi),?_⟩
    rw[List.getElem_modify,if_pos rfl]
    exact h.l
   ·obtain⟨t,htm,e⟩:=h.h m hm (by split <;> omega)
    have htm':t∈ts':=by rw[hr];exact List.mem_append_left _ htm
    obtain⟨j,hj,rfl⟩:=List.getElem_of_mem htm'
    refine⟨_,List.getElem_mem (n:=j) (by rw[List.length_modify];exact hj),?_⟩
    rw[List.getElem_modify]
    split
    ·rename_i q;subst q;omega
    ·exact e
theorem Din.names {k:Int} (hk:k=4∨k=5∨k=6):∀(ns:List Tok) {S S':S1} {L:Nat} {W:Nat→Int} {o:Bool},Din S L W o→1≤L→W L=k-3→(∀x∈ns,named x.t=true∧K.Bytes x.t)→ns≠[]∨o=false→declN k S ns=.ok S'→Din S' L W false
 | [],S,S',L,W,o,h,_,_,_,ho,hd=>by
  injection hd with hd
  subst hd
  rcases ho with q|q
  ·exact absurd rfl q
  ·subst q;exact h
 | x::r,S,S',L,W,o,h,hL,hw,hx,ho,hd=>by
  rw[declN]at hd
  obtain⟨S2,h1,h2⟩:=R.bind_eq hd
  exact Din.names hk r (h.prec hL hk hw (hx x (List.mem_cons_self ..)) h1) hL hw (fun y hy=>hx y (List.mem_cons_of_mem _ hy)) (.inr rfl) h2
theorem Din.tokens:∀(ns:List Tok) {S S':S1} {L:Nat} {W:Nat→Int} {o:Bool},Din S L W o→(∀x∈ns,named x.t=true∧K.Bytes x.t)→declN 3 S ns=.ok S'→Din S' L W o
 | [],S,S',L,W,o,h,_,hd=>by injection hd with hd;subst hd;exact h
 | x::r,S,S',L,W,o,h,hx,hd=>by
  rw[declN]at hd
  obtain⟨S2,h1,h2⟩:=R.bind_eq hd
  exact Din.tokens r (h.token (hx x (List.mem_cons_self ..)) h1) (fun y hy=>hx y (List.mem_cons_of_mem _ hy)) h2
theorem Din.starts:∀(ns:List Tok) {S S':S1} {L:Nat} {W:Nat→Int} {o:Bool},Din S L W o→(∀x∈ns,T.isName x.t=true)→declN 7 S ns=.ok S'→Din S' L W o
 | [],S,S',L,W,o,h,_,hd=>by injection hd with hd;subst hd;exact h
 | x::r,S,S',L,W,o,h,hx,hd=>by
  rw[declN]at hd
  obtain⟨S2,h1,h2⟩:=R.bind_eq hd
  exact Din.starts r (h.start (hx x (List.mem_cons_self ..)) h1) (fun y hy=>hx y (List.mem_cons_of_mem _ hy)) h2
theorem Din.decls:∀(ds:List Y.Dcl) {S S':S1} {L:Nat} {W:Nat→Int},Din S L W false→(∀d∈ds,d.k=3∨d.k=4∨d.k=5∨d.k=6∨d.k=7)→(∀d∈ds,d.ns≠[])→(∀d∈ds,∀x∈d.ns,named x.t=true∧K.Bytes x.t)→(∀d∈ds,d.k=7→∀x∈d.ns,T.isName x.t=true)→Gm.decls S ds=.ok S'→∃L' W',Din S' L' W' false
 | [],S,S',L,W,h,_,_,_,_,hd=>by injection hd with hd;subst hd;exact⟨L,W,h⟩
 | d::r,S,S',L,W,h,hk,he,hx,hs,hd=>by
  rw[Gm.decls]at hd
  obtain⟨S2,h1,h2⟩:=R.bind_eq hd
  have hr:∀ {L' W'},Din S2 L' W' false→∃L' W',Din S' L' W' false:=fun {L' W'} h'=>Din.decls r h' (fun x hx=>hk x (List.mem_cons_of_mem _ hx)) (fun x hx=>he x (List.mem_cons_of_mem _ hx)) (fun y hy=>hx y (List.mem_cons_of_mem _ hy)) (fun y hy=>hs y (List.mem_cons_of_mem _ hy)) h2
  have k0:=hk d (List.mem_cons_self ..)
  have e0:=he d (List.mem_cons_self ..)
  have x0:=hx d (List.mem_cons_self ..)
  have s0:=hs d (List.mem_cons_self ..)
  by_cases h3:d.k=3
  ·rw[h3]at h1
   exact hr (Din.tokens d.ns (L:=L) (W:=W) (o:=false) (by unfold up;rw[if_pos (.inl rfl)];exact h) x0 h1)
  ·by_cases h7:d.k=7
   ·rw[h7]at h1
    exact hr (Din.starts d.ns (L:=L) (W:=W) (o:=false) (by unfold up;rw[if_pos (.inr rfl)];exact h) (s0 h7) h1)
   ·have h456:d.k=4∨d.k=5∨d.k=6:=by omega
    let W':Nat→Int:=fun n=>if n=L+1 then d.k-3 else W n
    refine hr (Din.names h456 d.ns (L:=L+1) (W:=W') (o:=true) ?_ (by omega) (by simp[W']) x0 (.inl e0) h1)
    unfold up
    rw[if_neg (by omega)]
    refine⟨⟨h.t.c,h.t.nd,h.t.nm,fun t ht=>?_⟩,by simp[h.l],fun n hn hl=>?_,h.s⟩
    ·rcases h.t.lv t ht with q|⟨n,q1,q2,q3,q4,q5,q6⟩
     ·exact .inl q
     ·have hW:W' n=W n:=by simp only[W'];rw[if_neg (by omega)]
      exact .inr ⟨n,q1,q2,by omega,by rw[hW];exact q4,by rw[hW];exact q5,by rw[hW];exact q6⟩
    ·simp only[if_true]at hl
     exact h.h n hn (by simp;omega)
theorem few:∀(L:Nat) (ts:List Tm),(∀n:Nat,1≤n→n≤L→∃t∈ts,t.lv=(n:Int))→L≤ts.length
 | 0,_,_=>Nat.zero_le _
 | L+1,ts,h=>by
  obtain⟨t,ht,e⟩:=h (L+1) (by omega) (by omega)
  obtain⟨a,b,rfl⟩:=List.append_of_mem ht
  have:=few L (a++b) (fun n h1 h2=>by
   obtain⟨u,hu,eu⟩:=h n h1 (by omega)
   refine⟨u,?_,eu⟩
   simp only[List.mem_append,List.mem_cons]at hu ⊢
   rcases hu with q|q|q
   ·exact .inl q
   ·subst q;omega
   ·exact .inr q)
  simp at this ⊢
  omega
theorem zb4 {n w:Int} (hw:w≠0):∀(ts:List Tm) (way:Int),(∀t∈ts,t.lv=n→t.wy=w)→way=0∨way=w→way=w∨(∃t∈ts,t.lv=n)→lev n ts way=true
 | [],way,_,_,h=>by
  unfold lev
  rcases h with h|⟨t,ht,_⟩
  ·subst h;simpa using hw
  ·simp at ht
 | t::r,way,h1,h2,h3=>by
  rw[lev]
  by_cases hl:t.lv=n
  ·have e:=h1 t (List.mem_cons_self ..) hl
   rw[if_neg (show ¬t.lv≠n from fun q=>q hl),if_neg (show ¬(way≠0∧way≠t.wy) from fun q=>by rcases h2 with p|p;exact q.1 p;exact q.2 (p.trans e.symm))]
   exact zb4 hw r t.wy (fun u hu=>h1 u (List.mem_cons_of_mem _ hu)) (.inr e) (.inl e)
  ·rw[if_pos hl]
   refine zb4 hw r way (fun u hu=>h1 u (List.mem_cons_of_mem _ hu)) h2 ?_
   rcases h3 with h3|⟨u,hu,eu⟩
   ·exact .inl h3
   ·rcases List.mem_cons.1 hu with q|q
    ·subst q;exact absurd eu hl
    ·exact .inr ⟨u,q,eu⟩
theorem zaN {l:List (List Int)} (hn:l.Nodup) (i:Nat) (hi:i<l.length):find l l[i]=(i:Int) :=
 find_first i hi rfl fun k hk=>fun e=>List.pairwise_iff_getElem.1 hn k i (by omega) hi hk e
theorem Tin.fine {ts:List Tm} {L:Nat} {W:Nat→Int} (h:Tin ts L W) (hl:∀n:Nat,1≤n→n≤L→∃t∈ts,t.lv=(n:Int)):terms ts=true:=by
 have hL:=few L ts hl
 have hc:=h.c
 unfold terms
 rw[Bool.and_eq_true]
 refine⟨decide_eq_true h.c,decide_eq_true fun i hi=>?_⟩
 have hn:=(h.nm _ (List.getElem_mem hi)).1
 have hf:find (names ts) (ts[i]).nm=(i:Int):=by
  have:=zaN h.nd i (by rw[za7];exact hi)
  simpa[names] using this
 have hlv:=h.lv _ (List.getElem_mem hi)
 unfold term1
 simp only[Bool.and_eq_true,decide_eq_true_eq,hn,hf]
 rcases hlv with⟨q1,q2⟩|⟨n,q1,q2,q3,q4,q5,q6⟩
 ·refine⟨⟨⟨⟨⟨⟨⟨trivial,by simp⟩,by omega⟩,by omega⟩,by omega⟩,by omega⟩,by rw[q1,q2];rfl⟩,fun m hm=>?_⟩
  rw[q1]at hm;simp at hm
 ·refine⟨⟨⟨⟨⟨⟨⟨trivial,by simp⟩,by omega⟩,by omega⟩,by omega⟩,by omega⟩,?_⟩,fun m hm=>?_⟩
  ·have e1:((ts[i]).lv==0)=false:=by simp;omega
   have e2:((ts[i]).wy==0)=false:=by simp;omega
   rw[e1,e2];rfl
  ·have hm':m<n:=by rw[q1]at hm;simpa using hm
   obtain⟨u,hu,eu⟩:=hl (m+1) (by omega) (by omega)
   have hWm:W (m+1)≠0∧∀t∈ts,t.lv=((m+1:Nat):Int)→t.wy=W (m+1):=by
    refine⟨?_,fun t ht et=>?_⟩
    ·rcases h.lv u hu with⟨q,_⟩|⟨n',p1,p2,p3,p4,p5,p6⟩
     ·omega
     ·obtain rfl:n'=m+1:=by omega
      omega
    ·rcases h.lv t ht with⟨q,_⟩|⟨n',p1,p2,p3,p4,p5,p6⟩
     ·omega
     ·obtain rfl:n'=m+1:=by omega
      exact p4
   exact zb4 hWm.1 ts 0 hWm.2 (.inl rfl) (.inr ⟨u,hu,eu⟩)
end Gm
namespace Gm
structure Nin (ts:List Tm) (ns:List (List Int)):Prop where
 c:ns.length≤16
 nd:ns.Nodup
 nm:∀s∈ns,T.isName s=true∧K.Bytes s
 no:∀s∈ns,s ∉ names ts
theorem Nin.nil (ts:List Tm):Nin ts []:=⟨by simp,by simp,by simp,by simp⟩
def tops (n:Nat):List Int→Int→Bool
 | [],top=>top==n-1
 | l::r,top=>if l<0∨top+1<l then false else tops n r (if top<l then l else top)
theorem left1_ok {ts:List Tm} {ns ns':List (List Int)} {x:Tok} (h:left1 ts ns x=.ok ns'):(ns'=ns∧0≤find ns x.t)∨(ns'=ns++[x.t]∧x.t ∉ ns∧x.t ∉ names ts∧ns.length≠16):=by
 unfold left1 at h
 split at h
 ·cases h
 ·rename_i h1
  split at h
  ·rename_i h2
   injection h with h
   exact .inl ⟨h.symm,h2⟩
  ·rename_i h2
   split at h
   ·cases h
   ·rename_i h3
    injection h with h
    exact .inr ⟨h.symm,find_none.1 (by omega),find_none.1 (by omega),h3⟩
theorem lefts_ok (ts:List Tm):∀(ps:List Y.Prd) {ns ns':List (List Int)},Nin ts ns→(∀p∈ps,T.isName p.l.t=true∧K.Bytes p.l.t)→lefts ts ns ps=.ok ns'→Nin ts ns'∧(∃r,ns'=ns++r)∧tops ns'.length (ps.map fun p=>find ns' p.l.t) (ns.length-1)=true
 | [],ns,ns',h,_,hd=>by
  injection hd with hd
  subst hd
  exact⟨h,⟨[],by simp⟩,by simp[tops]⟩
 | p::r,ns,ns',h,hx,hd=>by
  rw[lefts]at hd
  obtain⟨n1,h1,h2⟩:=R.bind_eq hd
  have x0:=hx p (List.mem_cons_self ..)
  have hr:=fun h=>lefts_ok ts r (ns:=n1) (ns':=ns') h (fun y hy=>hx y (List.mem_cons_of_mem _ hy)) h2
  rcases left1_ok h1 with⟨rfl,h3⟩|⟨rfl,h3,h4,h5⟩
  ·obtain⟨k1,⟨m,rfl⟩,k2⟩:=hr h
   refine⟨k1,⟨m,rfl⟩,?_⟩
   have hf:=find_app (m:=m) h3
   have hlt:=find_lt n1 p.l.t
   rw[List.map_cons,tops,hf,if_neg (by omega),if_neg (by omega)]
   exact k2
  ·have hn:Nin ts (ns++[p.l.t]):=by
    refine⟨by have:=h.c;simp;omega,zc4 h.nd h3,fun s hs=>?_,fun s hs=>?_⟩
    ·rcases List.mem_append.1 hs with q|q
     ·exact h.nm s q
     ·simp at q;subst q;exact x0
    ·rcases List.mem_append.1 hs with q|q
     ·exact h.no s q
     ·simp at q;subst q;exact h4
   obtain⟨k1,⟨m,rfl⟩,k2⟩:=hr hn
   refine⟨k1,⟨[p.l.t]++m,by simp⟩,?_⟩
   have hf0:find (ns++[p.l.t]) p.l.t=(ns.length:Int):=by rw[find_snoc (find_none.2 h3),if_pos rfl]
   have hf:find (ns++[p.l.t]++m) p.l.t=(ns.length:Int):=by rw[find_app (by omega),hf0]
   rw[List.map_cons,tops,hf,if_neg (by omega),if_pos (by omega)]
   have e:((ns++[p.l.t]).length:Int)-1=(ns.length:Int):=by simp
   rw[e]at k2
   exact k2
def Sy (t n:Nat) (z:Int):Prop:=z<t∧-1-z<n
theorem Sy.mono {t t' n:Nat} {z:Int} (h:Sy t n z) (ht:t≤t'):Sy t' n z:=⟨by have:=h.1;omega,h.2⟩
structure Keeps (ts ts':List Tm) (ns:List (List Int)):Prop where
 n:Nin ts' ns
 p:∃r,ts'=ts++r
 t:∀L W,Tin ts L W→Tin ts' L W
theorem Keeps.len {ts ts':List Tm} {ns:List (List Int)} (h:Keeps ts ts' ns):ts.length≤ts'.length:=by obtain⟨r,rfl⟩:=h.p;simp
theorem Keeps.refl {ts:List Tm} {ns:List (List Int)} (h:Nin ts ns):Keeps ts ts ns:=⟨h,⟨[],by simp⟩,fun _ _ h=>h⟩
theorem Keeps.trans {a b c:List Tm} {ns:List (List Int)} (h:Keeps a b ns) (k:Keeps b c ns):Keeps a c ns:=by
 refine⟨k.n,?_,fun L W q=>k.t L W (h.t L W q)⟩
 obtain⟨r,rfl⟩:=h.p
 obtain⟨m,rfl⟩:=k.p
 exact⟨r++m,by simp⟩
theorem zjI {ns:List (List Int)} {ts ts':List Tm} {x:Tok} {z:Int} (hn:Nin ts ns) (hf:find ns x.t<0) (hx:named x.t=true∧K.Bytes x.t) (h:sym ts x=.ok (ts',z)):Keeps ts ts' ns∧0≤z∧Sy ts'.length ns.length z:=by
 unfold sym at h
 split at h
 ·have hp:=zeX h
  have ht:=fun L W (q:Tin ts L W)=>q.put hx h
  rcases put_ok h with⟨j,_,rfl,e,hj,_⟩|⟨h4,rfl,e,_⟩
  ·exact⟨⟨hn,hp,ht⟩,by omega,by omega,by omega⟩
  ·refine⟨⟨⟨hn.c,hn.nd,hn.nm,fun s hs=>?_⟩,hp,ht⟩,by omega,by simp;omega,by omega⟩
   rw[zeo,List.mem_append]
   rintro(q|q)
   ·exact hn.no s hs q
   ·simp[names]at q
    subst q
    exact find_none.1 hf hs
 ·cases h
theorem symR_ok {ns:List (List Int)} {ts ts':List Tm} {x:Tok} {z:Int} (hn:Nin ts ns) (hx:named x.t=true∧K.Bytes x.t) (h:symR ns ts x=.ok (ts',z)):Keeps ts ts' ns∧Sy ts'.length ns.length z:=by
 unfold symR at h
 split at h
 ·injection h with h;injection h with h1 h2;subst h1 h2
  have:=find_lt ns x.t
  exact⟨Keeps.refl hn,by omega,by omega⟩
 ·obtain⟨h1,_,h3⟩:=zjI hn (by omega) hx h
  exact⟨h1,h3⟩
theorem symP_ok {ns:List (List Int)} {ts ts':List Tm} {x:Tok} {z:Int} (hn:Nin ts ns) (hx:named x.t=true∧K.Bytes x.t) (h:symP ns ts x=.ok (ts',z)):Keeps ts ts' ns∧0≤z∧Sy ts'.length ns.length z:=by
 unfold symP at h
 split at h
 ·cases h
 ·exact zjI hn (by omega) hx h
theorem zd9 (ns:List (List Int)):∀(r:List Tok) {ts ts':List Tm} {acc out:List Int} {p q:Int},Nin ts ns→(∀x∈r,named x.t=true∧K.Bytes x.t)→acc.length≤6→(∀z∈acc,Sy ts.length ns.length z∧(0≤z→0≤p))→-1≤p→p<ts.length→rights ns ts acc p r=.ok (ts',out,q)→Keeps ts ts' ns∧out.length≤6∧(∀z∈out,Sy ts'.length ns.length z∧(0≤z→0≤q))∧-1≤q∧q<ts'.length
 | [],ts,ts',acc,out,p,q,hn,_,hl,ha,hp1,hp2,h=>by
  injection h with h;injection h with h1 h2;injection h2 with h2 h3
  subst h1 h2 h3
  exact⟨Keeps.refl hn,hl,ha,hp1,hp2⟩
 | x::r,ts,ts',acc,out,p,q,hn,hx,hl,ha,hp1,hp2,h=>by
  rw[rights]at h
  split at h
  ·cases h
  ·rename_i h6
   obtain⟨⟨t1,z⟩,h1,h2⟩:=R.bind_eq h
   obtain⟨k1,k2⟩:=symR_ok hn (hx x (List.mem_cons_self ..)) h1
   have hkl:=k1.len
   simp only at h2
   obtain⟨k3,k4⟩:=zd9 ns r k1.n (fun y hy=>hx y (List.mem_cons_of_mem _ hy)) (by simp;omega) (fun w hw=>by
    rcases List.mem_append.1 hw with m|m
    ·obtain⟨a1,a2⟩:=ha w m
     refine⟨a1.mono hkl,fun h0=>?_⟩
     have:=a2 h0
     split <;> omega
    ·simp at m;subst m
     refine⟨k2,fun h0=>?_⟩
     rw[if_pos h0];exact h0) (by split <;> omega) (by have:=k2.1;split <;> omega) h2
   exact⟨k1.trans k3,k4⟩
def Ru (t n:Nat) (r:Rl):Prop:=r.r.length≤6∧-1≤r.p∧r.p<t∧∀z∈r.r,Sy t n z∧(0≤z→0≤r.p)
theorem Ru.mono {t t' n:Nat} {r:Rl} (h:Ru t n r) (ht:t≤t'):Ru t' n r:=⟨h.1,h.2.1,by have:=h.2.2.1;omega,fun z hz=>⟨(h.2.2.2 z hz).1.mono ht,(h.2.2.2 z hz).2⟩⟩
theorem ziZ {ns:List (List Int)} {ts ts':List Tm} {rs rs':List Rl} {p:Y.Prd} (hn:Nin ts ns) (hx:∀x∈p.r,named x.t=true∧K.Bytes x.t) (hp:∀x,p.p=some x→named x.t=true∧K.Bytes x.t) (h:prod1 ns ts rs p=.ok (ts',rs')) :
  Keeps ts ts' ns∧rs.length≠40∧∃r,rs'=rs++[r]∧r.l=find ns p.l.t∧Ru ts'.length ns.length r:=by
 unfold prod1 at h
 split at h
 ·cases h
 ·rename_i h40
  obtain⟨⟨t1,out,q⟩,h1,h2⟩:=R.bind_eq h
  obtain⟨k1,k2,k3,k4,k5⟩:=zd9 ns p.r hn hx (by simp) (by simp) (by omega) (by omega) h1
  rcases hpp:p.p with _|x
  ·rw[hpp]at h2
   injection h2 with h2;injection h2 with e1 e2
   subst e1 e2
   exact⟨k1,h40,_,rfl,rfl,k2,k4,k5,k3⟩
  ·rw[hpp]at h2
   obtain⟨⟨t2,z⟩,h3,h4⟩:=R.bind_eq h2
   injection h4 with h4;injection h4 with e1 e2
   subst e1 e2
   obtain⟨m1,m2,m3⟩:=symP_ok k1.n (hp x hpp) h3
   have hml:=m1.len
   exact⟨k1.trans m1,h40,_,rfl,rfl,k2,by simp only;omega,m3.1,fun z hz=>⟨(k3 z hz).1.mono hml,fun _=>m2⟩⟩
theorem zfB (ns:List (List Int)):∀(ps:List Y.Prd) {ts ts':List Tm} {rs rs':List Rl},Nin ts ns→(∀p∈ps,(∀x∈p.r,named x.t=true∧K.Bytes x.t)∧∀x,p.p=some x→named x.t=true∧K.Bytes x.t)→rs.length≤40→(∀r∈rs,Ru ts.length ns.length r)→prods ns ts rs ps=.ok (ts',rs') →
  Keeps ts ts' ns∧rs'.length≤40∧(∀r∈rs',Ru ts'.length ns.length r)∧rs'.map Rl.l=rs.map Rl.l++ps.map fun p=>find ns p.l.t
 | [],ts,ts',rs,rs',hn,_,hl,hr,h=>by
  injection h with h;injection h with h1 h2;subst h1 h2
  exact⟨Keeps.refl hn,hl,hr,by simp⟩
 | p::r,ts,ts',rs,rs',hn,hx,hl,hr,h=>by
  rw[prods]at h
  obtain⟨⟨t1,r1⟩,h1,h2⟩:=R.bind_eq h
  obtain⟨k1,k2,w,rfl,k3,k4⟩:=ziZ hn (hx p (List.mem_cons_self ..)).1 (hx p (List.mem_cons_self ..)).2 h1
  have hkl:=k1.len
  obtain⟨m1,m2,m3,m4⟩:=zfB ns r k1.n (fun y hy=>hx y (List.mem_cons_of_mem _ hy)) (by simp;omega) (fun y hy=>by
   rcases List.mem_append.1 hy with q|q
   ·exact(hr y q).mono hkl
   ·simp at q;subst q;exact k4) h2
  refine⟨k1.trans m1,m2,m3,?_⟩
  rw[m4];simp[k3]
theorem zjS {G:Gr} {z:Int} (h:Sy G.ts.length G.ns.length z):has G z=true:=by
 unfold has
 split
 ·exact decide_eq_true h.1
 ·exact decide_eq_true h.2
theorem zkd {G:Gr} {r:Rl} (h:Ru G.ts.length G.ns.length r):rule G r=true:=by
 unfold rule
 simp only[Bool.and_eq_true,decide_eq_true_eq,List.all_eq_true]
 refine⟨⟨⟨h.1,h.2.1⟩,h.2.2.1⟩,fun z hz=>⟨zjS (h.2.2.2 z hz).1,?_⟩⟩
 have:=(h.2.2.2 z hz).2
 by_cases h0:0≤z
 ·have h1:=this h0
  rw[decide_eq_true h0]
  simp
  omega
 ·rw[decide_eq_false h0];rfl
theorem zcU (G:Gr):∀(rs:List Rl) (top:Int),(∀r∈rs,rule G r=true)→tops G.ns.length (rs.map Rl.l) top=true→rules G rs top=true
 | [],_,_,h=>h
 | r::rs,top,hr,h=>by
  rw[List.map_cons,tops]at h
  rw[rules]
  split at h
  ·cases h
  ·rename_i h1
   rw[if_neg (by rw[hr r (List.mem_cons_self ..)];simp;omega)]
   exact zcU G rs _ (fun y hy=>hr y (List.mem_cons_of_mem _ hy)) h
theorem tx_named {s:List Int} (h:named s=true∧K.Bytes s):K.Tx s:=by
 refine⟨h.2,?_⟩
 have h1:=h.1
 unfold named at h1
 rw[Bool.or_eq_true]at h1
 rcases h1 with h1|h1
 ·unfold T.isName at h1
  simp only[Bool.and_eq_true,decide_eq_true_eq]at h1
  omega
 ·rcases T.isLit_len h1 with e|e <;> omega
structure Built (G:Gr):Prop where
 r:right G=true
 f:∀z,Sy G.ts.length G.ns.length z→zlC G (name G z)=(z,true)
 t:Fit G
theorem build_ok {ds:List Y.Dcl} {ps:List Y.Prd} {G:Gr} (hg:Good ds ps) (h:build ds ps=.ok G):Built G:=by
 unfold build at h
 obtain⟨S,h1,h⟩:=R.bind_eq h
 obtain⟨ns,h2,h⟩:=R.bind_eq h
 obtain⟨⟨ts,rs⟩,h3,h⟩:=R.bind_eq h
 obtain⟨z,h4,h⟩:=R.bind_eq h
 injection h with h
 obtain⟨L,W,hd⟩:=Din.decls ds (S:=⟨[],[],none,0⟩) (L:=0) (W:=fun _=>0) ⟨Tin.nil _,rfl,fun n h1 h2=>by simp at h2;omega,fun x hx=>by cases hx⟩ hg.k hg.e hg.d hg.s h1
 obtain⟨hn,_,htop⟩:=lefts_ok S.ts ps (Nin.nil _) hg.l h2
 obtain⟨k1,k2,k3,k4⟩:=zfB ns ps hn (fun p hp=>⟨hg.r p hp,hg.p p hp⟩) (by simp) (by simp) h3
 have ht:=k1.t L W hd.t
 have hl:∀n:Nat,1≤n→n≤L→∃t∈ts,t.lv=(n:Int):=fun n h1 h2=>by
  obtain⟨t,hm,e⟩:=hd.h n h1 (by simpa using h2)
  obtain⟨r,rfl⟩:=k1.p
  exact⟨t,List.mem_append_left _ hm,e⟩
 have hns:1≤ns.length:=by
  rcases hp:ps with _|⟨p,r⟩
  ·exact absurd hp hg.n
  ·rw[hp]at htop
   rw[List.map_cons,tops]at htop
   split at htop
   ·cases htop
   ·rename_i q
    have:=find_lt ns p.l.t
    omega
 have hrl:rs.length=ps.length:=by
  have:=congrArg List.length k4
  simpa using this
 have hst:0≤z∧z<ns.length:=by
  unfold start at h4
  rcases hs:S.st with _|x
  ·rw[hs]at h4;injection h4 with h4;omega
  ·rw[hs]at h4
   simp only at h4
   split at h4
   ·injection h4 with h4
    have:=find_lt ns x.t
    omega
   ·cases h4
 subst h
 have hN:=k1.n
 refine⟨?_,?_,?_⟩
 ·unfold right
  simp only[Bool.and_eq_true,decide_eq_true_eq]
  have hpl:1≤ps.length:=Nat.pos_of_ne_zero fun e=>hg.n (List.eq_nil_of_length_eq_zero e)
  refine⟨⟨⟨⟨⟨⟨ht.fine hl,?_⟩,by omega⟩,k2⟩,hst.1⟩,hst.2⟩,?_⟩
  ·unfold nons
   simp only[Bool.and_eq_true,decide_eq_true_eq]
   refine⟨⟨hns,hN.c⟩,fun i hi=>?_⟩
   unfold non1 non term
   simp only[Bool.and_eq_true,decide_eq_true_eq]
   exact⟨⟨(hN.nm _ (List.getElem_mem hi)).1,by simpa using zaN hN.nd i hi⟩,find_none.2 (hN.no _ (List.getElem_mem hi))⟩
  ·refine zcU _ _ _ (fun r hr=>zkd (k3 r hr)) ?_
   simp only
   rw[k4]
   simpa using htop
 ·intro y hy
  have hh:has ⟨ts,ns,rs,z⟩ y=true:=zjS hy
  unfold name
  rw[if_pos hh]
  by_cases h0:0≤y
  ·obtain⟨i,rfl⟩:=Int.eq_ofNat_of_zero_le h0
   have hi:i<(names ts).length:=by have:=hy.1;simp only at this;rw[za7];omega
   rw[if_pos h0]
   simp only[Int.toNat_natCast,List.getD,List.getElem?_eq_getElem hi,Option.getD_some]
   unfold zlC term
   simp only
   rw[zaN ht.nd i hi,if_pos (by omega)]
  ·obtain⟨i,hi0⟩:=Int.eq_ofNat_of_zero_le (show 0 ≤ -1-y by omega)
   have hi:i<ns.length:=by have:=hy.2;simp only at this;omega
   rw[if_neg h0,hi0]
   simp only[Int.toNat_natCast,List.getD,List.getElem?_eq_getElem hi,Option.getD_some]
   unfold zlC term non
   simp only
   rw[if_neg (by have:=find_none.2 (hN.no _ (List.getElem_mem hi));omega),zaN hN.nd i hi,if_pos (by omega)]
   congr 1
   omega
 ·have hc:=ht.c
  have hnc:=hN.c
  have hLts:=few L ts hl
  refine⟨fun x hx=>⟨tx_named (ht.nm x hx),?_,?_⟩,fun x hx=>tx_named ⟨by unfold named;rw[(hN.nm x hx).1];rfl,(hN.nm x hx).2⟩,fun x hx=>⟨?_,?_,?_⟩,?_⟩
  ·rcases ht.lv x hx with⟨q,_⟩|⟨n,q1,q2,q3,q4,q5,q6⟩ <;> (unfold In;omega)
  ·rcases ht.lv x hx with⟨_,q⟩|⟨n,q1,q2,q3,q4,q5,q6⟩ <;> (unfold In;omega)
  ·have hm:x.l∈rs.map Rl.l:=List.mem_map.2 ⟨x,hx,rfl⟩
   rw[k4]at hm
   simp at hm
   obtain⟨p,_,e⟩:=hm
   have h1:=find_lt ns p.l.t
   have h2:=find_ge ns p.l.t
   unfold In;omega
  ·have:=k3 x hx
   unfold Ru at this
   unfold In;omega
  ·intro z hz
   have:=((k3 x hx).2.2.2 z hz).1
   unfold Sy at this
   unfold In;omega
  ·unfold In;simp only;omega
end Gm
end Go.Proofs.YtkfelkpilaipnaaGreatDoor
