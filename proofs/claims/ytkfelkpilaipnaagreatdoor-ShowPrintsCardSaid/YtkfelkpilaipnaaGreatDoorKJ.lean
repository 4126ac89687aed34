/- Part of the proofs over this program: Term9, ShowL, Decl9, Decls9, ShowSrc, ShowBld, ShowBld2, ShowBld3, CfgName. -/
import Derived.Test.YtkfelkpilaipnaaGreatDoorKI
namespace Go.Proofs.YtkfelkpilaipnaaGreatDoor
set_option maxRecDepth 100000
set_option maxHeartbeats 40000000
open Go.RowKit
theorem zip (s:ByteArray) (w:World):(Instr.build 51 #[(0,.string s)]).run Tryz.prog w=.ok (.agg #[.string s,.int .i64 0,.int .i64 0]) w:=run_build w 51 _ _ (by kernel_rfl)
theorem zix {w:World} {o:Oper} {a:Act} {KK:Act→World→Prop} {Q:Exit→Act→World→Prop}
  (s x:Operand) (t:TypeId) (ho:o.op=.call {callee:=.builtin .append,args:=#[s,x],argTypes:=#[t,t]}) (ht:Tryz.prog.underlying t=some (.slice 51))
  (base:Nat) (v:Value) (ts:List Gm.Tm) (hs:a.eval s=v) (hown:aZ w base v ts) (g c:Nat) (y:Gm.Tm) (hx:a.eval x=.slice (some ⟨g,0,none⟩) 1 c) (hz:∀j,w.cell? ⟨g,j,none⟩=(tmC y)[j]?)
  (hlen:ts.length≤1000000) (hbase:base≤w.heap.size)
  (hK:∀v' w',aZ w' base v' (ts++[y])→w.grownBy w' v.ownBlock→KK (a.put o.dst v') w') :
  o.wp Tryz.prog a w KK Q:=by
 obtain⟨i,hi,hz0,hz1,hz2⟩:=info_parts zh8
 refine wp_append_own w s x t ho base 51 i _ 3 32 ht hi hz0 hz1 hz2 rfl (by decide) v ts.length (zdW ts) hs hown ⟨g,0,none⟩ 1 c (tmC y) hx rfl ?_ ?_ (by unfold maxLen;omega) (by omega) hbase fun v' w' h1 h2 _=>hK v' w' ?_ h2
 ·intro j u hj
  rw[zdP,Nat.zero_add]
  exact(hz j).trans hj
 ·intro u hu;simp[tmC]at hu;rcases hu with rfl|rfl|rfl <;> rfl
 ·unfold aZ zdW
  rw[List.length_append,List.flatMap_append,List.flatMap_singleton];exact h1
theorem zdY (L:List Int) (B N R:Nat) (ts ts':List Gm.Tm) (ns:List (List Int)) (rs:List Gm.Rl) (lv n:Int) (x:Tok) (w:World) (hw:Wk w B N R ts ns rs lv) (hf:Gm.Fit ⟨ts,ns,rs,0⟩) (hx:K.Tx x.t) (hN:N≤w.heap.size) (hB:B≤w.heap.size) (hp:Gm.put ts x=.ok (ts',n)) (h24:ts.length≤24) :
  Calls Tryz.prog 137 #[.pointer (some ⟨R,0,none⟩),bK L x] w fun e w'=>e=.returned (.int .i64 n)∧Wk w' B N R ts' ns rs lv∧Below B w w'∧KpT w w':=by
 have HW:=aA hw
 obtain⟨vT,vN,vR,h⟩:=hw
 have HH:=aA h
 obtain⟨AT,cT,rfl,hc1,_⟩:=aU h.t
 obtain⟨AN,cN,rfl,_,_⟩:=aU h.n
 have hr3:∃AR cR,vR=.slice AR rs.length cR:=by obtain⟨qs,_,h2,_⟩:=id h.r;obtain⟨A,c,e,_⟩:=aU h2;exact⟨A,c,e⟩
 obtain⟨AR,cR,rfl⟩:=hr3
 obtain⟨k0,hf0,hRs⟩:=h.at 0
 have k1:=(h.at 1).1
 have k2:=(h.at 2).1
 have k3:=(h.at 3).1
 simp only[wC,List.getElem?_toArray,List.getElem?_cons_zero,List.getElem?_cons_succ]at k0 k1 k2 k3
 have HX:=aA (Below.refl w.heap.size w)
 unfold bK
 obtain⟨w1,hw1⟩:∃y,y=w.alloc (.cells #[.string (K.str x.t),.complex .f64 (Fl.fl (Pl.pos (L.take x.o)).1) (Fl.fl (Pl.pos (L.take x.o)).2)] 90):=⟨_,rfl⟩
 have HB1:Hid (Below w.heap.size w w1):=aA (by rw[hw1];exact(Below.refl _ _).alloc (Nat.le_refl _) _)
 have HR1:Hid (w1.heap[w.heap.size]?=some (.cells #[.string (K.str x.t),.complex .f64 (Fl.fl (Pl.pos (L.take x.o)).1) (Fl.fl (Pl.pos (L.take x.o)).2)] 90 (0,0))):=aA (by rw[hw1];exact heap_alloc_new w _)
 have HT:=aA (fun(y:World) (hb:Below w1.heap.size w1 y)=>zbq (.agg #[.slice AT ts.length cT,.slice AN ns.length cN,.slice AR rs.length cR,.int .i64 0]) ⟨ts,ns,rs,0⟩ x.t w.heap.size y ((h.rd hN 0).below (HB1.out.trans (hb.mono HB1.out.size)) (Nat.le_refl _)) hf hx (Nat.le_trans HB1.out.size hb.size))
 unfold Gm.term at HT
 unfold Gm.put at hp
 have HP:=aA hp
 have HF:=aA hf
 clear hp h hf
 go_enter Tryz.func137,Tryz.ntmps137
 go_wp2_with fail
 rw[←hw1]
 clear hw1
 have hk:=HB1.out
 have p0:=(hk.cell (p:=⟨R,0,none⟩) hRs).trans k0
 have p1:=(hk.cell (p:=⟨R,1,none⟩) hRs).trans k1
 have p2:=(hk.cell (p:=⟨R,2,none⟩) hRs).trans k2
 have p3:=(hk.cell (p:=⟨R,3,none⟩) hRs).trans k3
 have hR1:R<w1.heap.size:=Nat.lt_of_lt_of_le hRs hk.size
 have hb1:w.heap.size<w1.heap.size:=(Array.getElem?_eq_some_iff.1 HR1.out).1
 have t0:w1.cell? ⟨w.heap.size,0,none⟩=some (.string (K.str x.t)):=by rw[cell_of_row w1 _ 0 _ _ _ HR1.out];rfl
 have Q0:=fun y:Calm.On w1.heap.size w1=>(y.2.cell (p:=⟨R,0,none⟩) hR1).trans p0
 have Q1:=fun y:Calm.On w1.heap.size w1=>(y.2.cell (p:=⟨R,1,none⟩) hR1).trans p1
 have Q2:=fun y:Calm.On w1.heap.size w1=>(y.2.cell (p:=⟨R,2,none⟩) hR1).trans p2
 have Q3:=fun y:Calm.On w1.heap.size w1=>(y.2.cell (p:=⟨R,3,none⟩) hR1).trans p3
 have Q4:=fun y:Calm.On w1.heap.size w1=>(y.2.cell (p:=⟨w.heap.size,0,none⟩) hb1).trans t0
 clear hk
 refine CalmN.region_tree (fun x=>∃y:Calm.On w1.heap.size w1,x=y.1) (.one [0,1,2,3,4,5] 6 (.fin [7])) (by kernel_rfl) (by kernel_rfl) (fun _ _ d _ _ h=>by cases d <;> exact h) ⟨⟨w1.drew,aB (Below.refl _ _) 1⟩,rfl⟩ ?_
 simp only[CalmN.wpT,CalmN.wpSt,CalmN.pickOps,List.getElem?_toArray,List.getElem?_cons_zero,List.getElem?_cons_succ]
 repeat (go_big_quiet_step (fail))
 refine wpQuiet_nil ?_
 clear Q0 Q1 Q2 Q3 Q4 p0 p1 p2 p3 t0 k0 k1 k2 k3
 intro KK hKK
 rw[if_pos (by rfl)]
 go_wp2_with fail
 refine(HT.out w1.drew (aB (Below.refl _ _) 1)).mono ?_;rintro _ w2 ⟨rfl,hb2⟩
 have hb12:Below w1.heap.size w1 w2:=(aB (Below.refl w1.heap.size w1) 1).trans hb2
 have HB12:=aA hb12
 clear hb2
 go_wp2_with fail
 refine hKK _ _ ⟨⟨w2,hb12⟩,rfl⟩ (fun x=>∃y:Calm.On w1.heap.size w1,x=y.1) (fun _ h=>h) ⟨⟨w2,hb12⟩,rfl⟩ ?_
 repeat (go_big_quiet_step (fail))
 refine wpQuiet_nil ?_
 have HB2:=aA (HB1.out.trans (hb12.mono HB1.out.size))
 have HW2:=aA (HH.out.below HB2.out)
 have HR2:=aA ((hb12.block w.heap.size hb1).trans HR1.out)
 clear hb12 hKK
 by_cases h0:0≤Gm.find (Gm.names ts) x.t
 ·have HE:Hid (ts=ts'∧Gm.find (Gm.names ts) x.t=n):=aA (by have h:=HP.out;rw[if_pos h0]at h;injection h with h;exact⟨congrArg Prod.fst h,congrArg Prod.snd h⟩)
  rw[HE.out.2]at h0 ⊢
  go_wp2
  go_ret
  exact⟨rfl,⟨_,_,_,by rw[←HE.out.1];exact HW2.out⟩,HB2.out.mono hB,KpT.below HB2.out⟩
 ·have HE:Hid (ts++[⟨x.t,0,0⟩]=ts'∧(ts.length:Int)=n∧ts.length≠24):=aA (by
   have h:=HP.out
   rw[if_neg h0]at h
   by_cases h24:ts.length=24
   ·rw[if_pos h24]at h;cases h
   ·rw[if_neg h24]at h;injection h with h;exact⟨congrArg Prod.fst h,congrArg Prod.snd h,h24⟩)
  have hl24:((ts.length:Int)==24)=false:=beq_eq_false_iff_ne.2 (by have:=HE.out.2.2;omega)
  obtain⟨k0,hf0,hR2⟩:=HW2.out.at 0
  simp only[wC,List.getElem?_toArray,List.getElem?_cons_zero]at k0
  generalize Gm.find (Gm.names ts) x.t=z at *
  go_wp2_with fail
  have HR2r:=HR2
  have HB26:=aA (HB2.out.mono hB)
  have HO6:=aA ((HW2.out.alloc (.cells (tmC ⟨x.t,0,0⟩).toArray 51)).t)
  have HB6:Hid (B≤(w2.alloc (.cells (tmC ⟨x.t,0,0⟩).toArray 51)).drew.heap.size):=aA (by have:=HB2.out.size;simp;omega)
  have HCE:=aA (aH w2 (tmC ⟨x.t,0,0⟩) 51)
  have HT6:Hid ((w2.alloc (.cells (tmC ⟨x.t,0,0⟩).toArray 51)).heap[w.heap.size]?=w2.heap[w.heap.size]?):=aA (((Below.refl _ w2).alloc (Nat.le_refl _) _).block _ (Array.getElem?_eq_some_iff.1 HR2.out).1)
  have RB:=fun w=>zip (K.str x.t) w
  have D8:=fun y:Calm.OnB w.heap.size w2=>(show y.1.cell? ⟨w.heap.size,0,none⟩=some (.string (K.str x.t)) by rw[cell_of_row y.1 _ 0 _ _ _ (y.2.trans HR2.out)];rfl)
  refine CalmN.region_tree (fun y=>∃z:Calm.OnB w.heap.size w2,y=z.1) (.two [0,1,2,3,4,6,7,8] 5 (.one [] 9 (.one [] 10 (.one [11,12,13] 14 (.fin [])))) 9 (.one [] 5 (.one [] 10 (.one [11,12,13] 14 (.fin []))))) (by kernel_rfl) (by kernel_rfl) (fun _ _ d _ _ h=>by cases d <;> exact h) ⟨⟨w2.drew,rfl⟩,rfl⟩ ?_
  simp only[CalmN.wpT,CalmN.wpSt,CalmN.pickOps,List.getElem?_toArray,List.getElem?_cons_zero,List.getElem?_cons_succ]
  repeat (go_big_quiet_step (fail))
  refine wpQuiet_nil ?_
  clear D8
  refine⟨?_,?_⟩
  ·intro KK hKK
   rw[if_pos (by rfl)]
   go_wp2_with fail
   refine hKK _ _ ⟨⟨w2.drew,rfl⟩,rfl⟩ (fun y=>∃z:Calm.OnB w.heap.size w2,y=z.1) (fun _ h=>h) ⟨⟨w2.drew,rfl⟩,rfl⟩ ?_
   refine wpQuiet_nil ?_
   intro KK hKK
   try rw[if_pos (by rfl)]
   go_wp2_with fail
   refine hKK _ _ ⟨⟨(w2.alloc (.cells (tmC ⟨x.t,0,0⟩).toArray 51)).drew,HT6.out⟩,rfl⟩ (fun y=>∃z:Calm.OnB w.heap.size w2,y=z.1) (fun _ h=>h) ⟨⟨(w2.alloc (.cells (tmC ⟨x.t,0,0⟩).toArray 51)).drew,HT6.out⟩,rfl⟩ ?_
   refine wpQuiet_nil ?_
   intro KK hKK
   try rw[if_pos (by rfl)]
   refine zix (w:=(w2.alloc (.cells (tmC ⟨x.t,0,0⟩).toArray 51)).drew) (.tmp 31) (.tmp 35) _ rfl Tryz.underlying22 B (.slice AT ts.length cT) ts rfl HO6.out _ 1 ⟨x.t,0,0⟩ rfl HCE.out (by omega) HB6.out ?_
   intro v7 w7 ho7 hg7'
   have hg7:=(aE (w2.alloc (.cells (tmC ⟨x.t,0,0⟩).toArray 51)) _).trans hg7'
   obtain⟨A7,c7,hv7,_,_⟩:=aU ho7
   rw[show(ts++[(⟨x.t,0,0⟩:Gm.Tm)]).length=ts.length+1 by simp]at hv7
   subst hv7
   have hW7:=(HW2.out.alloc (.cells (tmC ⟨x.t,0,0⟩).toArray 51)).tm_put ho7 hg7
   have HW7:=aA hW7
   obtain⟨k7,hf7,hR7⟩:=hW7.at 0
   simp only[wC,List.getElem?_toArray,List.getElem?_cons_zero]at k7
   have hK7:=(KpT.below ((Below.refl _ w2).alloc (Nat.le_refl _) (.cells (tmC ⟨x.t,0,0⟩).toArray 51))).trans (KpT.own (HW2.out.alloc (.cells (tmC ⟨x.t,0,0⟩).toArray 51)).t hg7)
   have HK7:=aA hK7
   have HT7:Hid (w7.heap[w.heap.size]?=w2.heap[w.heap.size]?):=aA ((hK7 _ _ _ HR2r.out (by decide) (by decide)).trans HR2r.out.symm)
   have HB7:=aA ((HB26.out.alloc (Nat.le_trans hB HB2.out.size) (.cells (tmC ⟨x.t,0,0⟩).toArray 51)).grown hg7 (by have:=HB2.out.size;simp;omega) (fun k e=>(aF HW2.out.t e).1))
   clear ho7 hg7 hg7' hW7 hK7
   go_wp2_with fail
   refine hKK _ _ ⟨⟨w7,HT7.out⟩,rfl⟩ (fun y=>∃z:Calm.OnB w.heap.size w2,y=z.1) (fun _ h=>h) ⟨⟨w7,HT7.out⟩,rfl⟩ ?_
   repeat (go_big_quiet_step (fail))
   refine wpQuiet_nil ?_
   intro KK hKK
   try rw[if_pos (by rfl)]
   go_wp2_with fail
   have HW8:=aA (HW7.out.set 0 (.slice A7 (ts.length+1) c7))
   have HK8:=aA (HK7.out.trans (KpT.set HW7.out 0 (.slice A7 (ts.length+1) c7)))
   have HB8:=aA (HB7.out.setCell (p:=⟨R,0,none⟩) HW7.out.hR (.slice A7 (ts.length+1) c7))
   have HT8:Hid ((w7.setCell ⟨R,0,none⟩ (.slice A7 (ts.length+1) c7)).heap[w.heap.size]?=w2.heap[w.heap.size]?):=aA ((HK8.out _ _ _ HR2r.out (by decide) (by decide)).trans HR2r.out.symm)
   refine hKK _ _ ⟨⟨_,HT8.out⟩,rfl⟩ (fun y=>∃z:Calm.OnB w.heap.size w2,y=z.1) (fun _ h=>h) ⟨⟨_,HT8.out⟩,rfl⟩ ?_
   refine wpQuiet_nil ?_
   obtain⟨k8,_,hR8⟩:=HW8.out.at 0
   simp only[wC,List.setIfInBounds_toArray,List.set_cons_zero,List.getElem?_toArray,List.getElem?_cons_zero]at k8
   clear k7 hf7
   go_wp2
   go_ret
   refine⟨by simp;exact HE.out.2.1,⟨_,_,_,by rw[←HE.out.1];exact HW8.out⟩,HB8.out,(KpT.below HB2.out).trans HK8.out⟩
  ·intro KK hKK
   rw[if_pos (by rfl)]
   go_wp2_with fail
   refine hKK _ _ ⟨⟨(w2.alloc (.cells (tmC ⟨x.t,0,0⟩).toArray 51)).drew,HT6.out⟩,rfl⟩ (fun y=>∃z:Calm.OnB w.heap.size w2,y=z.1) (fun _ h=>h) ⟨⟨(w2.alloc (.cells (tmC ⟨x.t,0,0⟩).toArray 51)).drew,HT6.out⟩,rfl⟩ ?_
   refine wpQuiet_nil ?_
   intro KK hKK
   try rw[if_pos (by rfl)]
   go_wp2_with fail
   refine hKK _ _ ⟨⟨(w2.alloc (.cells (tmC ⟨x.t,0,0⟩).toArray 51)).drew,HT6.out⟩,rfl⟩ (fun y=>∃z:Calm.OnB w.heap.size w2,y=z.1) (fun _ h=>h) ⟨⟨(w2.alloc (.cells (tmC ⟨x.t,0,0⟩).toArray 51)).drew,HT6.out⟩,rfl⟩ ?_
   refine wpQuiet_nil ?_
   intro KK hKK
   try rw[if_pos (by rfl)]
   refine zix (w:=(w2.alloc (.cells (tmC ⟨x.t,0,0⟩).toArray 51)).drew) (.tmp 31) (.tmp 35) _ rfl Tryz.underlying22 B (.slice AT ts.length cT) ts rfl HO6.out _ 1 ⟨x.t,0,0⟩ rfl HCE.out (by omega) HB6.out ?_
   intro v7 w7 ho7 hg7'
   have hg7:=(aE (w2.alloc (.cells (tmC ⟨x.t,0,0⟩).toArray 51)) _).trans hg7'
   obtain⟨A7,c7,hv7,_,_⟩:=aU ho7
   rw[show(ts++[(⟨x.t,0,0⟩:Gm.Tm)]).length=ts.length+1 by simp]at hv7
   subst hv7
   have hW7:=(HW2.out.alloc (.cells (tmC ⟨x.t,0,0⟩).toArray 51)).tm_put ho7 hg7
   have HW7:=aA hW7
   obtain⟨k7,hf7,hR7⟩:=hW7.at 0
   simp only[wC,List.getElem?_toArray,List.getElem?_cons_zero]at k7
   have hK7:=(KpT.below ((Below.refl _ w2).alloc (Nat.le_refl _) (.cells (tmC ⟨x.t,0,0⟩).toArray 51))).trans (KpT.own (HW2.out.alloc (.cells (tmC ⟨x.t,0,0⟩).toArray 51)).t hg7)
   have HK7:=aA hK7
   have HT7:Hid (w7.heap[w.heap.size]?=w2.heap[w.heap.size]?):=aA ((hK7 _ _ _ HR2r.out (by decide) (by decide)).trans HR2r.out.symm)
   have HB7:=aA ((HB26.out.alloc (Nat.le_trans hB HB2.out.size) (.cells (tmC ⟨x.t,0,0⟩).toArray 51)).grown hg7 (by have:=HB2.out.size;simp;omega) (fun k e=>(aF HW2.out.t e).1))
   clear ho7 hg7 hg7' hW7 hK7
   go_wp2_with fail
   refine hKK _ _ ⟨⟨w7,HT7.out⟩,rfl⟩ (fun y=>∃z:Calm.OnB w.heap.size w2,y=z.1) (fun _ h=>h) ⟨⟨w7,HT7.out⟩,rfl⟩ ?_
   repeat (go_big_quiet_step (fail))
   refine wpQuiet_nil ?_
   intro KK hKK
   try rw[if_pos (by rfl)]
   go_wp2_with fail
   have HW8:=aA (HW7.out.set 0 (.slice A7 (ts.length+1) c7))
   have HK8:=aA (HK7.out.trans (KpT.set HW7.out 0 (.slice A7 (ts.length+1) c7)))
   have HB8:=aA (HB7.out.setCell (p:=⟨R,0,none⟩) HW7.out.hR (.slice A7 (ts.length+1) c7))
   have HT8:Hid ((w7.setCell ⟨R,0,none⟩ (.slice A7 (ts.length+1) c7)).heap[w.heap.size]?=w2.heap[w.heap.size]?):=aA ((HK8.out _ _ _ HR2r.out (by decide) (by decide)).trans HR2r.out.symm)
   refine hKK _ _ ⟨⟨_,HT8.out⟩,rfl⟩ (fun y=>∃z:Calm.OnB w.heap.size w2,y=z.1) (fun _ h=>h) ⟨⟨_,HT8.out⟩,rfl⟩ ?_
   refine wpQuiet_nil ?_
   obtain⟨k8,_,hR8⟩:=HW8.out.at 0
   simp only[wC,List.setIfInBounds_toArray,List.set_cons_zero,List.getElem?_toArray,List.getElem?_cons_zero]at k8
   clear k7 hf7
   go_wp2
   go_ret
   refine⟨by simp;exact HE.out.2.1,⟨_,_,_,by rw[←HE.out.1];exact HW8.out⟩,HB8.out,(KpT.below HB2.out).trans HK8.out⟩
end Go.Proofs.YtkfelkpilaipnaaGreatDoor
namespace Go.Proofs.YtkfelkpilaipnaaGreatDoor
set_option maxRecDepth 100000
set_option maxHeartbeats 40000000
namespace Sh
theorem zhj (p:Int→Bool) (l r:List Int) (z:Int) (h:∀j,j<l.length→p (l.getD j 0)=true) (hz:p z=false):T.run p (l++z::r)=l.length:=by
 induction l with
 | nil=>simp[T.run,hz]
 | cons y l ih =>
  have h0:=h 0 (by simp)
  have h0':p y=true:=by simpa using h0
  rw[List.cons_append,T.run,if_pos h0',ih (fun j hj=>by have:=h (j+1) (by simp;omega);simpa using this)]
  simp
theorem zhK (l r:List Int) (z:Int) (h:T.isName l=true) (hz:T.inName z=false):T.nsize (l++z::r)=l.length:=by
 rw[T.isName_iff]at h
 simp only[Bool.and_eq_true,decide_eq_true_eq]at h
 obtain⟨⟨⟨h1,h2⟩,h3⟩,h4⟩:=h
 cases l with
 | nil=>simp at h1
 | cons y l =>
  rw[List.cons_append,T.nsize_cons,if_pos (by simpa using h3),zhj T.inName l r z (fun j hj=>by have:=h4 (j+1) (by simp;omega);simpa using this) hz]
  simp
theorem name_pos {l:List Int} (h:T.isName l=true):0<l.length∧l.length≤20:=by
 rw[T.isName_iff]at h
 simp only[Bool.and_eq_true,decide_eq_true_eq]at h
 omega
theorem zhP {l:List Int} (h:T.isName l=true) (r:List Int):T.head ((l++r).getD 0 0)=true:=by
 have hp:=(name_pos h).1
 rw[T.isName_iff]at h
 simp only[Bool.and_eq_true,decide_eq_true_eq]at h
 rw[L.append_getD_lt _ _ _ hp]
 exact h.1.2
theorem getD_at {α:Type} (l:List α) (j:Nat) (d:α) (h:j<l.length):l.getD j d=l[j]:=by
 rw[List.getD_eq_getElem?_getD,List.getElem?_eq_getElem h];rfl
def joinW:List (List Int)→List Int
 | []=>[]
 | [w]=>w
 | w::v::r=>w++32::joinW (v::r)
def zaw (ws:List (List Int)):List Int:=joinW ws++[10]
def flat (ls:List (List (List Int))):List Int:=ls.flatMap zaw
def wToken:List Int:=[37,116,111,107,101,110]
def wLeft:List Int:=[37,108,101,102,116]
def wRight:List Int:=[37,114,105,103,104,116]
def wNon:List Int:=[37,110,111,110,97,115,115,111,99]
def wStart:List Int:=[37,115,116,97,114,116]
def wPrec:List Int:=[37,112,114,101,99]
def wMark:List Int:=[37,37]
def wColon:List Int:=[58]
def wSemi:List Int:=[59]
def wayW (a:Int):List Int:=if a=1 then wLeft else if a=2 then wRight else wNon
def tokens (ts:List Gm.Tm):List (List (List Int)):=ts.map fun t=>[wToken,t.nm]
def top (ts:List Gm.Tm):Int:=ts.foldl (fun m t=>if m<t.lv then t.lv else m) 0
def onLev (ts:List Gm.Tm) (n:Int):List Gm.Tm:=ts.filter fun t=>t.lv==n
def level (ts:List Gm.Tm) (n:Int):List (List Int):=match onLev ts n with
 | []=>[]
 | t::r=>wayW t.wy::(t::r).map Gm.Tm.nm
def levels (ts:List Gm.Tm):List (List (List Int)):=(List.range (top ts).toNat).map fun i=>level ts ((i+1:Nat):Int)
def last (l:List Int):Int:=l.foldl (fun m z=>if 0≤z then z else m) (-1)
def rule (G:Gm.Gr) (r:Gm.Rl):List (List Int):=G.ns.getD r.l.toNat []::wColon::(r.r.map (Gm.name G)++(if r.p=last r.r then [] else [wPrec,Gm.name G r.p])++[wSemi])
def lines (G:Gm.Gr):List (List (List Int)):=tokens G.ts++levels G.ts++[[wStart,G.ns.getD G.st.toNat []]]++[[wMark]]++G.rs.map (rule G)
def text (G:Gm.Gr):List Int:=flat (lines G)
def wkind (w:List Int):Int:=(T.piece (w++[32])).1
def Wd (w:List Int):Prop:=0<w.length∧wkind w≠0∧∀s r,(s=32∨s=10)→T.piece (w++s::r)=(wkind w,w.length,0)
def zlw (w:List Int):Int×List Int:=(wkind w,aW (wkind w) w)
def key (x:Tok):Int×List Int:=(x.k,x.t)
theorem zbm {w:List Int} (h:T.isName w=true):Wd w∧wkind w=1:=by
 have hp:=name_pos h
 have hall:∀s r,(s=32∨s=10)→T.piece (w++s::r)=(1,w.length,0):=by
  intro s r hs
  have hh:=zhP h (s::r)
  have hn:=zhK w r s h (by rcases hs with rfl|rfl <;> decide)
  unfold T.piece
  simp only
  generalize (w++s::r).getD 0 0=z at hh ⊢
  have hz:(97≤z∧z≤122)∨(65≤z∧z≤90)∨z=95:=by
   simp[T.head,T.small]at hh;omega
  rw[if_neg (by omega),if_neg (by omega),if_neg (by omega),if_neg (by omega),if_neg (by omega),if_neg (by omega),if_neg (by omega),if_neg (by omega),if_neg (by omega)]
  unfold T.name
  rw[hn,if_neg (by omega),if_neg (by omega)]
 have hk:wkind w=1:=by unfold wkind;rw[hall 32 [] (Or.inl rfl)]
 exact⟨⟨hp.1,by rw[hk];decide,by rw[hk];exact hall⟩,hk⟩
theorem zjH {w:List Int} (h:T.isLit w=true):Wd w∧wkind w=2:=by
 have hp:=T.isLit_len h
 have hall:∀s r,(s=32∨s=10)→T.piece (w++s::r)=(2,w.length,0):=by
  intro s r hs
  obtain⟨m,hm⟩:=T.isLit_bare w h
  have hz:(w++s::r).getD 0 0=39:=by rw[hm];rfl
  unfold T.piece
  simp only
  rw[hz,if_neg (by decide),if_neg (by decide),if_neg (by decide),if_neg (by decide),if_neg (by decide),if_pos rfl]
  unfold T.literal
  match w,h with
  | [a,b,c],h=>rw[show([a,b,c]++s::r).take 3=[a,b,c] from rfl,if_pos h];rfl
  | [a,b,c,d],h =>
   have h3:T.isLit [a,b,c]=false:=by
    simp[T.isLit]at h
    obtain⟨⟨⟨_,_⟩,rfl⟩,_⟩:=h
    simp[T.isLit]
   rw[show([a,b,c,d]++s::r).take 3=[a,b,c] from rfl,show([a,b,c,d]++s::r).take 4=[a,b,c,d] from rfl,if_neg (by rw[h3];simp),if_pos h]
   rfl
 have hk:wkind w=2:=by unfold wkind;rw[hall 32 [] (Or.inl rfl)]
 exact⟨⟨by omega,by rw[hk];decide,by rw[hk];exact hall⟩,hk⟩
theorem zbV {w:List Int} (h:Gm.named w=true):Wd w∧(wkind w=1∨wkind w=2):=by
 unfold Gm.named at h
 rw[Bool.or_eq_true]at h
 rcases h with h|h
 ·exact⟨(zbm h).1,.inl (zbm h).2⟩
 ·exact⟨(zjH h).1,.inr (zjH h).2⟩
theorem zdU {w:List Int} (h:wkind w=1∨wkind w=2):aW (wkind w) w=w:=by unfold aW;rw[if_pos h]
theorem zbR (a b:Int) (l:List Int) (ha:0≤a∧a<256) (hb:0≤b∧b<256) (h:a≠b) (p:List Int):T.pre (37::a::l) (37::b::p)=false:=by
 unfold T.pre Lib.hasPrefix
 rw[Bool.eq_false_iff]
 intro q
 have q:=List.isPrefixOf_iff_prefix.1 q
 obtain⟨t,ht⟩:=q
 simp only[Lib.bytesOf,List.map_cons,List.cons_append,List.cons.injEq]at ht
 obtain⟨_,h2,_⟩:=ht
 have:=congrArg UInt8.toNat h2
 simp at this
 omega
theorem zax (a:Int) (v:List Int) (k:Int) (ha:97≤a∧a≤122) (hv:∀z∈v,97≤z∧z≤122) (hk:T.wkind (a::v)=k) (hk0:k≠0):Wd (37::a::v)∧wkind (37::a::v)=k:=by
 have hrun:∀s r,(s=32∨s=10)→T.psize ((37::a::v)++s::r)=(37::a::v).length:=by
  intro s r hs
  unfold T.psize
  have e:((37::a::v)++s::r).drop 1=(a::v)++s::r:=rfl
  rw[e,zhj T.small (a::v) r s _ (by rcases hs with rfl|rfl <;> decide)]
  ·simp only[List.length_cons];omega
  ·intro j hj
   have hm:(a::v).getD j 0∈a::v:=by
    rw[getD_at _ _ _ hj];exact List.getElem_mem hj
   have:97≤(a::v).getD j 0∧(a::v).getD j 0≤122:=by
    rcases List.mem_cons.1 hm with q|q
    ·rw[q];exact ha
    ·exact hv _ q
   unfold T.small
   simp only[Bool.and_eq_true,decide_eq_true_eq]
   exact this
 have hall:∀s r,(s=32∨s=10)→T.piece ((37::a::v)++s::r)=(k,(37::a::v).length,0):=by
  intro s r hs
  have hr:=hrun s r hs
  unfold T.piece
  have hz:((37::a::v)++s::r).getD 0 0=37:=rfl
  simp only
  rw[hz,if_neg (by decide),if_neg (by decide),if_neg (by decide),if_neg (by decide),if_pos rfl]
  unfold T.percent
  rw[hr]
  have e:(((37::a::v)++s::r).take (37::a::v).length).drop 1=a::v:=by rw[List.take_left];rfl
  rw[e,hk]
  have n1:T.pre ((37::a::v)++s::r) [37,37]=false:=zbR a 37 _ (by omega) (by omega) (by omega) []
  have n2:T.pre ((37::a::v)++s::r) [37,123]=false:=zbR a 123 _ (by omega) (by omega) (by omega) []
  rw[if_neg (by rw[n1];simp),if_neg (by rw[n2];simp),if_neg hk0]
 have hk':wkind (37::a::v)=k:=by unfold wkind;rw[hall 32 [] (Or.inl rfl)]
 exact⟨⟨by simp,by rw[hk'];exact hk0,by rw[hk'];exact hall⟩,hk'⟩
theorem zfp:Wd wToken∧wkind wToken=3:=zax 116 _ 3 (by decide) (by decide) (by decide) (by decide)
theorem zj0:Wd wLeft∧wkind wLeft=4:=zax 108 _ 4 (by decide) (by decide) (by decide) (by decide)
theorem ziG:Wd wRight∧wkind wRight=5:=zax 114 _ 5 (by decide) (by decide) (by decide) (by decide)
theorem zkO:Wd wNon∧wkind wNon=6:=zax 110 _ 6 (by decide) (by decide) (by decide) (by decide)
theorem zfq:Wd wStart∧wkind wStart=7:=zax 115 _ 7 (by decide) (by decide) (by decide) (by decide)
theorem zb7:Wd wPrec∧wkind wPrec=8:=zax 112 _ 8 (by decide) (by decide) (by decide) (by decide)
theorem pre_two (a b:Int) (l:List Int):T.pre (a::b::l) [a,b]=true:=by
 unfold T.pre Lib.hasPrefix
 rw[List.isPrefixOf_iff_prefix]
 exact⟨Lib.bytesOf l,by simp[Lib.bytesOf]⟩
theorem zb8:Wd wMark∧wkind wMark=9:=by
 have hall:∀s r,(s=32∨s=10)→T.piece (wMark++s::r)=(9,2,0):=by
  intro s r hs
  unfold T.piece
  have hz:(wMark++s::r).getD 0 0=37:=rfl
  simp only
  rw[hz,if_neg (by decide),if_neg (by decide),if_neg (by decide),if_neg (by decide),if_pos rfl]
  unfold T.percent
  rw[if_pos (show T.pre (wMark++s::r) [37,37]=true from pre_two 37 37 _)]
 have hk:wkind wMark=9:=by unfold wkind;rw[hall 32 [] (Or.inl rfl)]
 exact⟨⟨by decide,by rw[hk];decide,by rw[hk];exact hall⟩,hk⟩
theorem zdl:Wd wColon∧wkind wColon=10:=⟨⟨by decide,by decide,fun _ _ _=>rfl⟩,rfl⟩
theorem za2:Wd wSemi∧wkind wSemi=12:=⟨⟨by decide,by decide,fun _ _ _=>rfl⟩,rfl⟩
theorem zhh (w r:List Int) (s:Int) (hw:Wd w) (hs:s=32∨s=10) (f k m:Nat) (acc:List Tok) (hm:m≠2) (hm':(if wkind w=9 then m+1 else m)≠2) :
  zdR (f+2) (w++s::r) k m acc=zdR f r (k+w.length+1) (if wkind w=9 then m+1 else m) (acc++[⟨wkind w,aW (wkind w) w,k⟩]):=by
 obtain⟨h0,h1,h2⟩:=hw
 have hp:=h2 s r hs
 rw[zbB (f+1) (w++s::r) k m acc (by simp;omega) (by rw[hp]),hp]
 simp only
 have e1:(w++s::r).drop w.length=s::r:=List.drop_left
 have e2:zaq m (wkind w,w.length,0)=if wkind w=9 then m+1 else m:=rfl
 have e3:more acc k (wkind w,w.length,0) (w++s::r)=acc++[⟨wkind w,aW (wkind w) w,k⟩]:=by
  unfold more
  rw[if_neg h1]
  simp only[List.take_left]
 have hb:T.piece (s::r)=(0,1,0):=by rcases hs with rfl|rfl <;> rfl
 rw[e1,e2,e3]
 generalize (if wkind w=9 then m+1 else m)=m' at hm' ⊢
 rw[zbB f (s::r) _ m' _ (by simp;omega) (by rw[hb]),hb]
 rfl
def zeM (ps:List (List Int×Int)):List Int:=ps.flatMap fun p=>p.1++[p.2]
theorem zd5:∀(ps:List (List Int×Int)) (f k m:Nat) (acc:List Tok),(∀p∈ps,Wd p.1∧(p.2=32∨p.2=10))→m+(ps.filter fun p=>wkind p.1==9).length<2→2*ps.length≤f →
  ∃xs:List Tok,xs.map key=ps.map (fun p=>zlw p.1)∧zdR f (zeM ps) k m acc=.ok (acc++xs)
 | [],f,k,m,acc,_,_,_=>⟨[],rfl,by rw[show zeM []=[] from rfl,zbt _ _ _ _ _ (Or.inl rfl),List.append_nil]⟩
 | (w,s)::ps,f,k,m,acc,h,hm,hf=>by
  obtain⟨hw,hs⟩:=h (w,s) (by simp)
  simp only[List.length_cons]at hf
  obtain⟨f,rfl⟩:∃f',f=f'+2:=⟨f-2,by omega⟩
  have hm2:m+((if wkind w=9 then 1 else 0)+(ps.filter fun p=>wkind p.1==9).length)<2:=by
   rw[List.filter_cons]at hm
   by_cases h9:wkind w=9
   ·rw[if_pos (by simpa using h9),List.length_cons]at hm;rw[if_pos h9];omega
   ·rw[if_neg (by simpa using h9)]at hm;rw[if_neg h9];omega
  have hm':(if wkind w=9 then m+1 else m)+(ps.filter fun p=>wkind p.1==9).length<2:=by
   by_cases h9:wkind w=9
   ·rw[if_pos h9]at hm2 ⊢;omega
   ·rw[if_neg h9]at hm2 ⊢;omega
  obtain⟨xs,h1,h2⟩:=zd5 ps f (k+w.length+1) (if wkind w=9 then m+1 else m) (acc++[⟨wkind w,aW (wkind w) w,k⟩]) (fun p hp=>h p (by simp[hp])) hm' (by omega)
  have e:zeM ((w,s)::ps)=w++s::zeM ps:=by unfold zeM;rw[List.flatMap_cons];simp
  refine⟨⟨wkind w,aW (wkind w) w,k⟩::xs,by rw[List.map_cons,List.map_cons,h1];rfl,?_⟩
  rw[e,zhh w (zeM ps) s hw hs f k m acc (by omega) (by omega),h2]
  simp
def za0:List (List Int)→List (List Int×Int)
 | []=>[]
 | [w]=>[(w,10)]
 | w::v::r=>(w,32)::za0 (v::r)
theorem zek (ws:List (List Int)):(za0 ws).map Prod.fst=ws:=by
 induction ws with
 | nil=>rfl
 | cons w r ih=>cases r with
  | nil=>rfl
  | cons v r=>simp only[za0,List.map_cons];rw[ih]
theorem zhG (ws:List (List Int)):∀p∈za0 ws,p.2=32∨p.2=10:=by
 induction ws with
 | nil=>simp[za0]
 | cons w r ih=>cases r with
  | nil=>simp[za0]
  | cons v r =>
   intro p hp
   simp only[za0,List.mem_cons]at hp ih ⊢
   rcases hp with rfl|hp
   ·exact .inl rfl
   ·exact ih p hp
theorem zgn (ws:List (List Int)) (h:ws≠[]):zeM (za0 ws)=zaw ws:=by
 induction ws with
 | nil=>exact absurd rfl h
 | cons w r ih=>cases r with
  | nil=>simp[zeM,za0,zaw,joinW]
  | cons v r =>
   have:=ih (by simp)
   unfold zeM zaw at *
   simp only[za0,joinW]at this ⊢
   rw[List.flatMap_cons,this]
   simp
theorem zgw (ls:List (List (List Int))) (h:∀l∈ls,l≠[]):zeM (ls.flatMap za0)=flat ls:=by
 induction ls with
 | nil=>rfl
 | cons l r ih =>
  unfold flat at *
  rw[List.flatMap_cons,List.flatMap_cons,←zgn l (h l (by simp)),←ih (fun x hx=>h x (by simp[hx]))]
  unfold zeM
  rw[List.flatMap_append]
theorem zfb (ls:List (List (List Int))):(ls.flatMap za0).map Prod.fst=ls.flatten:=by
 induction ls with
 | nil=>rfl
 | cons l r ih=>rw[List.flatMap_cons,List.map_append,ih,zek,List.flatten_cons]
theorem zfP:∀(ps:List (List Int×Int)),(∀p∈ps,0<p.1.length)→2*ps.length≤(zeM ps).length
 | [],_=>by simp
 | p::ps,h=>by
  have h1:=h p (by simp)
  have h2:=zfP ps (fun q hq=>h q (by simp[hq]))
  have e:zeM (p::ps)=p.1++[p.2]++zeM ps:=by unfold zeM;rw[List.flatMap_cons]
  rw[e]
  simp only[List.length_append,List.length_cons,List.length_nil]
  omega
theorem zg1 (ls:List (List (List Int))) (h:∀l∈ls,l≠[]∧∀w∈l,Wd w) (hm:(ls.flatten.filter fun w=>wkind w==9).length<2) :
  ∃xs:List Tok,xs.map key=ls.flatten.map zlw∧zdV (flat ls)=.ok xs:=by
 have hfst:=zfb ls
 have hW:∀p∈ls.flatMap za0,Wd p.1∧(p.2=32∨p.2=10):=by
  intro p hp
  obtain⟨l,hl,hp'⟩:=List.mem_flatMap.1 hp
  refine⟨(h l hl).2 _ ?_,zhG l p hp'⟩
  have:p.1∈(za0 l).map Prod.fst:=List.mem_map_of_mem hp'
  rwa [zek]at this
 have hc:((ls.flatMap za0).filter fun p=>wkind p.1==9).length<2:=by
  rw[←hfst,List.filter_map,List.length_map]at hm
  exact hm
 have hlen:=zfP (ls.flatMap za0) (fun p hp=>(hW p hp).1.1)
 obtain⟨xs,h1,h2⟩:=zd5 (ls.flatMap za0) ((zeM (ls.flatMap za0)).length+1) 0 0 [] hW (by omega) (by omega)
 refine⟨xs,?_,?_⟩
 ·rw[h1,←hfst,List.map_map];rfl
 ·unfold zdV
  rw[←zgw ls (fun l hl=>(h l hl).1),h2]
  rfl
end Sh
end Go.Proofs.YtkfelkpilaipnaaGreatDoor
namespace Go.Proofs.YtkfelkpilaipnaaGreatDoor
set_option maxRecDepth 100000
set_option maxHeartbeats 40000000
open Go.RowKit
theorem Gm.put_lt {ts ts':List Gm.Tm} {x:Tok} {n:Int} (h:Gm.put ts x=.ok (ts',n)):∃i:Nat,n=(i:Int)∧i<ts'.length:=by
 unfold Gm.put at h
 by_cases h0:0≤Gm.find (Gm.names ts) x.t
 ·rw[if_pos h0]at h
  injection h with h
  have h1:=congrArg Prod.fst h
  have h2:=congrArg Prod.snd h
  simp only at h1 h2
  have h3:=Gm.find_lt (Gm.names ts) x.t
  have h4:(Gm.names ts).length=ts.length:=by simp[Gm.names]
  refine⟨n.toNat,by omega,?_⟩
  rw[←h1]
  omega
 ·rw[if_neg h0]at h
  by_cases h24:ts.length=24
  ·rw[if_pos h24]at h;cases h
  ·rw[if_neg h24]at h
   injection h with h
   have h1:=congrArg Prod.fst h
   have h2:=congrArg Prod.snd h
   simp only at h1 h2
   refine⟨ts.length,h2.symm,?_⟩
   rw[←h1]
   simp
theorem zjq (L:List Int) (B N R:Nat) (ts ts':List Gm.Tm) (ns:List (List Int)) (rs:List Gm.Rl) (lv n k:Int) (x:Tok) (w:World) (hw:Wk w B N R ts ns rs lv) (hf:Gm.Fit ⟨ts,ns,rs,0⟩) (hx:K.Tx x.t) (hnm:Gm.named x.t=true) (hN:N≤w.heap.size) (hB:B≤w.heap.size) (hk:k=4∨k=5)
  (hlo:¬(0≤Gm.find (Gm.names ts) x.t∧0<(ts.map Gm.Tm.lv).getD (Gm.find (Gm.names ts) x.t).toNat 0)) (hp:Gm.put ts x=.ok (ts',n)) (h24:ts.length≤24) :
  Calls Tryz.prog 99 #[.pointer (some ⟨R,0,none⟩),.int .i64 k,bK L x] w fun e w'=>e=.returned (.tuple #[])∧Wk w' B N R (ts'.modify n.toNat fun t=>⟨t.nm,lv,k-3⟩) ns rs lv∧Below B w w'∧KpT w w':=by
 have HW:=aA hw
 obtain⟨i,hi,hil⟩:=Gm.put_lt hp
 subst hi
 have HTE:=aA (fun(y:World) (h:Wk y B N R ts ns rs lv) (hy:N≤y.heap.size) (hz:B≤y.heap.size)=>zdY L B N R ts ts' ns rs lv i x y h hf hx hy hz hp h24)
 have HNM:=aA (fun(y:World)=>zay x.t hx y)
 rw[hnm]at HNM
 obtain⟨vT,vN,vR,h⟩:=hw
 have HH:=aA h
 obtain⟨AT,cT,rfl,hc1,_⟩:=aU h.t
 obtain⟨AN,cN,rfl,_,_⟩:=aU h.n
 have hr3:∃AR cR,vR=.slice AR rs.length cR:=by obtain⟨qs,_,h2,_⟩:=id h.r;obtain⟨A,c,e,_⟩:=aU h2;exact⟨A,c,e⟩
 obtain⟨AR,cR,rfl⟩:=hr3
 obtain⟨k0,hf0,hRs⟩:=h.at 0
 have k1:=(h.at 1).1
 have k2:=(h.at 2).1
 have k3:=(h.at 3).1
 simp only[wC,List.getElem?_toArray,List.getElem?_cons_zero,List.getElem?_cons_succ]at k0 k1 k2 k3
 unfold bK
 obtain⟨w1,hw1⟩:∃y,y=w.alloc (.cells #[.string (K.str x.t),.complex .f64 (Fl.fl (Pl.pos (L.take x.o)).1) (Fl.fl (Pl.pos (L.take x.o)).2)] 90):=⟨_,rfl⟩
 have HB1:Hid (Below w.heap.size w w1):=aA (by rw[hw1];exact(Below.refl _ _).alloc (Nat.le_refl _) _)
 have HR1:Hid (w1.heap[w.heap.size]?=some (.cells #[.string (K.str x.t),.complex .f64 (Fl.fl (Pl.pos (L.take x.o)).1) (Fl.fl (Pl.pos (L.take x.o)).2)] 90 (0,0))):=aA (by rw[hw1];exact heap_alloc_new w _)
 have HT:=aA (fun(y:World) (hb:Below w1.heap.size w1 y)=>zbq (.agg #[.slice AT ts.length cT,.slice AN ns.length cN,.slice AR rs.length cR,.int .i64 0]) ⟨ts,ns,rs,0⟩ x.t w.heap.size y ((h.rd hN 0).below (HB1.out.trans (hb.mono HB1.out.size)) (Nat.le_refl _)) hf hx (Nat.le_trans HB1.out.size hb.size))
 unfold Gm.term at HT
 have HLO:=aA hlo
 have HLT:=aA hil
 clear hp hf hlo
 rcases hk with rfl|rfl
 ·go_enter Tryz.func99,Tryz.ntmps99
  go_wp2_with fail
  refine(HNM.out _).mono ?_;rintro _ _ ⟨rfl,rfl⟩
  go_wp2_with fail
  rw[←hw1]
  clear hw1
  have hk:=HB1.out
  have p0:=(hk.cell (p:=⟨R,0,none⟩) hRs).trans k0
  have p1:=(hk.cell (p:=⟨R,1,none⟩) hRs).trans k1
  have p2:=(hk.cell (p:=⟨R,2,none⟩) hRs).trans k2
  have p3:=(hk.cell (p:=⟨R,3,none⟩) hRs).trans k3
  have hR1:R<w1.heap.size:=Nat.lt_of_lt_of_le hRs hk.size
  have hb1:w.heap.size<w1.heap.size:=(Array.getElem?_eq_some_iff.1 HR1.out).1
  have t0:w1.cell? ⟨w.heap.size,0,none⟩=some (.string (K.str x.t)):=by rw[cell_of_row w1 _ 0 _ _ _ HR1.out];rfl
  have Q0:=fun y:Calm.On w1.heap.size w1=>(y.2.cell (p:=⟨R,0,none⟩) hR1).trans p0
  have Q1:=fun y:Calm.On w1.heap.size w1=>(y.2.cell (p:=⟨R,1,none⟩) hR1).trans p1
  have Q2:=fun y:Calm.On w1.heap.size w1=>(y.2.cell (p:=⟨R,2,none⟩) hR1).trans p2
  have Q3:=fun y:Calm.On w1.heap.size w1=>(y.2.cell (p:=⟨R,3,none⟩) hR1).trans p3
  have Q4:=fun y:Calm.On w1.heap.size w1=>(y.2.cell (p:=⟨w.heap.size,0,none⟩) hb1).trans t0
  clear hk
  refine CalmN.region_tree (fun x=>∃y:Calm.On w1.heap.size w1,x=y.1) (.one [0,1,2,3,4,5] 6 (.fin [7])) (by kernel_rfl) (by kernel_rfl) (fun _ _ d _ _ h=>by cases d <;> exact h) ⟨⟨w1.drew,aB (Below.refl _ _) 1⟩,rfl⟩ ?_
  simp only[CalmN.wpT,CalmN.wpSt,CalmN.pickOps,List.getElem?_toArray,List.getElem?_cons_zero,List.getElem?_cons_succ]
  repeat (go_big_quiet_step (fail))
  refine wpQuiet_nil ?_
  clear Q0 Q1 Q2 Q3 Q4 p0 p1 p2 p3 t0 k0 k1 k2 k3
  intro KK hKK
  rw[if_pos (by rfl)]
  go_wp2_with fail
  refine(HT.out w1.drew (aB (Below.refl _ _) 1)).mono ?_;rintro _ w2 ⟨rfl,hb2⟩
  have hb12:Below w1.heap.size w1 w2:=(aB (Below.refl w1.heap.size w1) 1).trans hb2
  have HB12:=aA hb12
  clear hb2
  go_wp2_with fail
  refine hKK _ _ ⟨⟨w2,hb12⟩,rfl⟩ (fun x=>∃y:Calm.On w1.heap.size w1,x=y.1) (fun _ h=>h) ⟨⟨w2,hb12⟩,rfl⟩ ?_
  repeat (go_big_quiet_step (fail))
  refine wpQuiet_nil ?_
  have HB2:=aA (HB1.out.trans (hb12.mono HB1.out.size))
  have HW2:=aA (HH.out.below HB2.out)
  have HR2:=aA ((hb12.block w.heap.size hb1).trans HR1.out)
  clear hb12 hKK
  have hsz2:=HB2.out.size
  obtain⟨m0,mf0,hR2⟩:=HW2.out.at 0
  simp only[wC,List.getElem?_toArray,List.getElem?_cons_zero]at m0
  have tr0:w2.cell? ⟨w.heap.size,0,none⟩=some (.string (K.str x.t)):=by rw[cell_of_row w2 _ 0 _ _ _ HR2.out];rfl
  have tr1:w2.cell? ⟨w.heap.size,1,none⟩=some (.complex .f64 (Fl.fl (Pl.pos (L.take x.o)).1) (Fl.fl (Pl.pos (L.take x.o)).2)):=by rw[cell_of_row w2 _ 1 _ _ _ HR2.out];rfl
  have HTE2:=aA (HTE.out w2 ⟨_,_,_,HW2.out⟩ (Nat.le_trans hN hsz2) (Nat.le_trans hB hsz2))
  unfold bK at HTE2
  by_cases h0:0≤Gm.find (Gm.names ts) x.t
  ·have hlt:=Gm.find_lt (Gm.names ts) x.t
   obtain⟨j,hj⟩:∃j:Nat,Gm.find (Gm.names ts) x.t=(j:Int):=⟨_,(Int.toNat_of_nonneg h0).symm⟩
   have hjl:j<ts.length:=by rw[hj]at hlt;simp[Gm.names]at hlt;omega
   obtain⟨gT,cc,e,_,_,kk,_⟩:=zaE HW2.out.t j hjl
   injection e with e1 e2 e3
   subst e1
   have hlo:¬(0<ts[j].lv):=by
    have h:=HLO.out
    rw[hj]at h
    intro q
    refine h ⟨by omega,?_⟩
    rw[show((j:Int)).toNat=j from rfl,Sh.getD_at _ _ _ (by simpa using hjl),List.getElem_map]
    exact q
   have hj0:(0:Int)≤(j:Int):=by omega
   have hjl2:(j:Int)<(ts.length:Int):=by omega
   have hgt:gT<w2.heap.size:=block_lt_of_cell (a:=⟨gT,_,none⟩) kk
   rw[hj]
   clear h0 hlt hj e2 e3 HLO HT
   generalize ts[j].lv=lvj at *
   go_wp2_with fail
   refine HTE2.out.mono ?_;rintro _ w3 ⟨rfl,hw3,hb3,hk3⟩
   obtain⟨vT3,vN3,vR3,h3⟩:=hw3
   have HW3:=aA h3
   have HB3:=aA ((HB2.out.mono hB).trans hb3)
   have HK3:=aA ((KpT.below HB2.out).trans hk3)
   obtain⟨g3,cc3,rfl,_,s1,s2,sf,hBg,hgs,cur3,hcur3⟩:=zaE h3.t i HLT.out
   have HCU:=aA hcur3
   obtain⟨n0,_,hR3⟩:=h3.at 0
   have n8:=(h3.at 8).1
   have n10:=(h3.at 10).1
   simp only[wC,List.getElem?_toArray,List.getElem?_cons_zero,List.getElem?_cons_succ]at n0 n8 n10
   have f1:=sf (i*3+1)
   have f2:=sf (i*3+2)
   have hi0:(0:Int)≤(i:Int):=by omega
   have hil2:(i:Int)<(ts'.length:Int):=by have:=HLT.out;omega
   clear h3 hb3 hk3 hcur3 sf
   go_wp2_with fail
   have N0:=fun y:Calm.OnB R w3=>(show y.1.cell? ⟨R,0,none⟩=some (.slice (some ⟨g3,0,none⟩) ts'.length cc3) by rw[cell_of_row y.1 _ 0 _ _ _ (y.2.trans HW3.out.b)];rfl)
   have N8:=fun y:Calm.OnB R w3=>(show y.1.cell? ⟨R,8,none⟩=some (.int .i64 lv) by rw[cell_of_row y.1 _ 8 _ _ _ (y.2.trans HW3.out.b)];rfl)
   refine CalmN.region_tree (fun y=>∃z:Calm.OnB R w3,y=z.1) (.one [0,1,2,3,4,5,6,7,8,9,10,11,12,13,14,15,16,17,18,19,20] 21 (.one [22,23] 24 (.fin []))) (by kernel_rfl) (by kernel_rfl) (fun _ _ d _ _ h=>by cases d <;> exact h) ⟨⟨w3.drew,rfl⟩,rfl⟩ ?_
   simp only[CalmN.wpT,CalmN.wpSt,CalmN.pickOps,List.getElem?_toArray,List.getElem?_cons_zero,List.getElem?_cons_succ]
   repeat (go_big_quiet_step (fail))
   refine wpQuiet_nil ?_
   clear N0 N8
   have hneR:R≠g3:=fun e=>by have hb:=HW3.out.b;have hcu':=HCU.out;rw[e]at hb;rw[hb]at hcu';injection hcu' with q;injection q with _ q;exact absurd q (by decide)
   have HR5:Hid ((w3.setCell ⟨g3,i*3+1,none⟩ (.int .i64 lv)).heap[R]?=w3.heap[R]?):=aA (Below.heap_setCell w3 ⟨g3,i*3+1,none⟩ (.int .i64 lv) R (by simp only;exact hneR))
   have HR6:Hid (((w3.setCell ⟨g3,i*3+1,none⟩ (.int .i64 lv)).setCell ⟨g3,i*3+2,none⟩ (.int .i64 1)).heap[R]?=w3.heap[R]?):=aA ((Below.heap_setCell _ ⟨g3,i*3+2,none⟩ (.int .i64 1) R (by simp only;exact hneR)).trans HR5.out)
   intro KK hKK
   try rw[if_pos (by rfl)]
   go_wp2_with fail
   refine hKK _ _ ⟨⟨World.drew (w3.setCell ⟨g3,i*3+1,none⟩ (.int .i64 lv)),HR5.out⟩,rfl⟩ (fun y=>∃z:Calm.OnB R w3,y=z.1) (fun _ h=>h) ⟨⟨World.drew (w3.setCell ⟨g3,i*3+1,none⟩ (.int .i64 lv)),HR5.out⟩,rfl⟩ ?_
   repeat (go_big_quiet_step (fail))
   refine wpQuiet_nil ?_
   intro KK hKK
   try rw[if_pos (by rfl)]
   go_wp2_with fail
   refine hKK _ _ ⟨⟨World.drew ((w3.setCell ⟨g3,i*3+1,none⟩ (.int .i64 lv)).setCell ⟨g3,i*3+2,none⟩ (.int .i64 1)),HR6.out⟩,rfl⟩ (fun y=>∃z:Calm.OnB R w3,y=z.1) (fun _ h=>h) ⟨⟨World.drew ((w3.setCell ⟨g3,i*3+1,none⟩ (.int .i64 lv)).setCell ⟨g3,i*3+2,none⟩ (.int .i64 1)),HR6.out⟩,rfl⟩ ?_
   refine wpQuiet_nil ?_
   go_wp2
   go_end0
   have ho:=HW3.out.t
   have u1:=World.ownsRow.stored ho (i*3+1) (.int .i64 lv)
   have u2:=World.ownsRow.stored u1.1 (i*3+2) (.int .i64 1)
   have hg:w3.grownBy ((w3.setCell ⟨g3,i*3+1,none⟩ (.int .i64 lv)).setCell ⟨g3,i*3+2,none⟩ (.int .i64 1)).drew (some g3):=(aD (aD (World.grownBy.refl _ _) _ _) _ _).trans (aE _ _)
   have hOT:aZ ((w3.setCell ⟨g3,i*3+1,none⟩ (.int .i64 lv)).setCell ⟨g3,i*3+2,none⟩ (.int .i64 1)) B (.slice (some ⟨g3,0,none⟩) ts'.length cc3) (ts'.modify i fun t=>⟨t.nm,lv,1⟩):=by
    unfold aZ
    rw[List.length_modify,←zb9 ts' i HLT.out]
    exact u2.1
   exact⟨rfl,⟨_,_,_,HW3.out.tm_put hOT hg⟩,HB3.out.grown hg (Nat.le_trans hB HB3.out.size) (fun k e=>by injection e with e;omega),HK3.out.trans (KpT.cells hg HCU.out (.inr rfl))⟩
  ·have h0':Gm.find (Gm.names ts) x.t<0:=by omega
   generalize Gm.find (Gm.names ts) x.t=z at *
   go_wp2_with fail
   refine HTE2.out.mono ?_;rintro _ w3 ⟨rfl,hw3,hb3,hk3⟩
   obtain⟨vT3,vN3,vR3,h3⟩:=hw3
   have HW3:=aA h3
   have HB3:=aA ((HB2.out.mono hB).trans hb3)
   have HK3:=aA ((KpT.below HB2.out).trans hk3)
   obtain⟨g3,cc3,rfl,_,s1,s2,sf,hBg,hgs,cur3,hcur3⟩:=zaE h3.t i HLT.out
   have HCU:=aA hcur3
   obtain⟨n0,_,hR3⟩:=h3.at 0
   have n8:=(h3.at 8).1
   have n10:=(h3.at 10).1
   simp only[wC,List.getElem?_toArray,List.getElem?_cons_zero,List.getElem?_cons_succ]at n0 n8 n10
   have f1:=sf (i*3+1)
   have f2:=sf (i*3+2)
   have hi0:(0:Int)≤(i:Int):=by omega
   have hil2:(i:Int)<(ts'.length:Int):=by have:=HLT.out;omega
   clear h3 hb3 hk3 hcur3 sf
   go_wp2_with fail
   have N0:=fun y:Calm.OnB R w3=>(show y.1.cell? ⟨R,0,none⟩=some (.slice (some ⟨g3,0,none⟩) ts'.length cc3) by rw[cell_of_row y.1 _ 0 _ _ _ (y.2.trans HW3.out.b)];rfl)
   have N8:=fun y:Calm.OnB R w3=>(show y.1.cell? ⟨R,8,none⟩=some (.int .i64 lv) by rw[cell_of_row y.1 _ 8 _ _ _ (y.2.trans HW3.out.b)];rfl)
   refine CalmN.region_tree (fun y=>∃z:Calm.OnB R w3,y=z.1) (.one [0,1,2,3,4,5,6,7,8,9,10,11,12,13,14,15,16,17,18,19,20] 21 (.one [22,23] 24 (.fin []))) (by kernel_rfl) (by kernel_rfl) (fun _ _ d _ _ h=>by cases d <;> exact h) ⟨⟨w3.drew,rfl⟩,rfl⟩ ?_
   simp only[CalmN.wpT,CalmN.wpSt,CalmN.pickOps,List.getElem?_toArray,List.getElem?_cons_zero,List.getElem?_cons_succ]
   repeat (go_big_quiet_step (fail))
   refine wpQuiet_nil ?_
   clear N0 N8
   have hneR:R≠g3:=fun e=>by have hb:=HW3.out.b;have hcu':=HCU.out;rw[e]at hb;rw[hb]at hcu';injection hcu' with q;injection q with _ q;exact absurd q (by decide)
   have HR5:Hid ((w3.setCell ⟨g3,i*3+1,none⟩ (.int .i64 lv)).heap[R]?=w3.heap[R]?):=aA (Below.heap_setCell w3 ⟨g3,i*3+1,none⟩ (.int .i64 lv) R (by simp only;exact hneR))
   have HR6:Hid (((w3.setCell ⟨g3,i*3+1,none⟩ (.int .i64 lv)).setCell ⟨g3,i*3+2,none⟩ (.int .i64 1)).heap[R]?=w3.heap[R]?):=aA ((Below.heap_setCell _ ⟨g3,i*3+2,none⟩ (.int .i64 1) R (by simp only;exact hneR)).trans HR5.out)
   intro KK hKK
   try rw[if_pos (by rfl)]
   go_wp2_with fail
   refine hKK _ _ ⟨⟨World.drew (w3.setCell ⟨g3,i*3+1,none⟩ (.int .i64 lv)),HR5.out⟩,rfl⟩ (fun y=>∃z:Calm.OnB R w3,y=z.1) (fun _ h=>h) ⟨⟨World.drew (w3.setCell ⟨g3,i*3+1,none⟩ (.int .i64 lv)),HR5.out⟩,rfl⟩ ?_
   repeat (go_big_quiet_step (fail))
   refine wpQuiet_nil ?_
   intro KK hKK
   try rw[if_pos (by rfl)]
   go_wp2_with fail
   refine hKK _ _ ⟨⟨World.drew ((w3.setCell ⟨g3,i*3+1,none⟩ (.int .i64 lv)).setCell ⟨g3,i*3+2,none⟩ (.int .i64 1)),HR6.out⟩,rfl⟩ (fun y=>∃z:Calm.OnB R w3,y=z.1) (fun _ h=>h) ⟨⟨World.drew ((w3.setCell ⟨g3,i*3+1,none⟩ (.int .i64 lv)).setCell ⟨g3,i*3+2,none⟩ (.int .i64 1)),HR6.out⟩,rfl⟩ ?_
   refine wpQuiet_nil ?_
   go_wp2
   go_end0
   have ho:=HW3.out.t
   have u1:=World.ownsRow.stored ho (i*3+1) (.int .i64 lv)
   have u2:=World.ownsRow.stored u1.1 (i*3+2) (.int .i64 1)
   have hg:w3.grownBy ((w3.setCell ⟨g3,i*3+1,none⟩ (.int .i64 lv)).setCell ⟨g3,i*3+2,none⟩ (.int .i64 1)).drew (some g3):=(aD (aD (World.grownBy.refl _ _) _ _) _ _).trans (aE _ _)
   have hOT:aZ ((w3.setCell ⟨g3,i*3+1,none⟩ (.int .i64 lv)).setCell ⟨g3,i*3+2,none⟩ (.int .i64 1)) B (.slice (some ⟨g3,0,none⟩) ts'.length cc3) (ts'.modify i fun t=>⟨t.nm,lv,1⟩):=by
    unfold aZ
    rw[List.length_modify,←zb9 ts' i HLT.out]
    exact u2.1
   exact⟨rfl,⟨_,_,_,HW3.out.tm_put hOT hg⟩,HB3.out.grown hg (Nat.le_trans hB HB3.out.size) (fun k e=>by injection e with e;omega),HK3.out.trans (KpT.cells hg HCU.out (.inr rfl))⟩
 ·go_enter Tryz.func99,Tryz.ntmps99
  go_wp2_with fail
  refine(HNM.out _).mono ?_;rintro _ _ ⟨rfl,rfl⟩
  go_wp2_with fail
  rw[←hw1]
  clear hw1
  have hk:=HB1.out
  have p0:=(hk.cell (p:=⟨R,0,none⟩) hRs).trans k0
  have p1:=(hk.cell (p:=⟨R,1,none⟩) hRs).trans k1
  have p2:=(hk.cell (p:=⟨R,2,none⟩) hRs).trans k2
  have p3:=(hk.cell (p:=⟨R,3,none⟩) hRs).trans k3
  have hR1:R<w1.heap.size:=Nat.lt_of_lt_of_le hRs hk.size
  have hb1:w.heap.size<w1.heap.size:=(Array.getElem?_eq_some_iff.1 HR1.out).1
  have t0:w1.cell? ⟨w.heap.size,0,none⟩=some (.string (K.str x.t)):=by rw[cell_of_row w1 _ 0 _ _ _ HR1.out];rfl
  have Q0:=fun y:Calm.On w1.heap.size w1=>(y.2.cell (p:=⟨R,0,none⟩) hR1).trans p0
  have Q1:=fun y:Calm.On w1.heap.size w1=>(y.2.cell (p:=⟨R,1,none⟩) hR1).trans p1
  have Q2:=fun y:Calm.On w1.heap.size w1=>(y.2.cell (p:=⟨R,2,none⟩) hR1).trans p2
  have Q3:=fun y:Calm.On w1.heap.size w1=>(y.2.cell (p:=⟨R,3,none⟩) hR1).trans p3
  have Q4:=fun y:Calm.On w1.heap.size w1=>(y.2.cell (p:=⟨w.heap.size,0,none⟩) hb1).trans t0
  clear hk
  refine CalmN.region_tree (fun x=>∃y:Calm.On w1.heap.size w1,x=y.1) (.one [0,1,2,3,4,5] 6 (.fin [7])) (by kernel_rfl) (by kernel_rfl) (fun _ _ d _ _ h=>by cases d <;> exact h) ⟨⟨w1.drew,aB (Below.refl _ _) 1⟩,rfl⟩ ?_
  simp only[CalmN.wpT,CalmN.wpSt,CalmN.pickOps,List.getElem?_toArray,List.getElem?_cons_zero,List.getElem?_cons_succ]
  repeat (go_big_quiet_step (fail))
  refine wpQuiet_nil ?_
  clear Q0 Q1 Q2 Q3 Q4 p0 p1 p2 p3 t0 k0 k1 k2 k3
  intro KK hKK
  rw[if_pos (by rfl)]
  go_wp2_with fail
  refine(HT.out w1.drew (aB (Below.refl _ _) 1)).mono ?_;rintro _ w2 ⟨rfl,hb2⟩
  have hb12:Below w1.heap.size w1 w2:=(aB (Below.refl w1.heap.size w1) 1).trans hb2
  have HB12:=aA hb12
  clear hb2
  go_wp2_with fail
  refine hKK _ _ ⟨⟨w2,hb12⟩,rfl⟩ (fun x=>∃y:Calm.On w1.heap.size w1,x=y.1) (fun _ h=>h) ⟨⟨w2,hb12⟩,rfl⟩ ?_
  repeat (go_big_quiet_step (fail))
  refine wpQuiet_nil ?_
  have HB2:=aA (HB1.out.trans (hb12.mono HB1.out.size))
  have HW2:=aA (HH.out.below HB2.out)
  have HR2:=aA ((hb12.block w.heap.size hb1).trans HR1.out)
  clear hb12 hKK
  have hsz2:=HB2.out.size
  obtain⟨m0,mf0,hR2⟩:=HW2.out.at 0
  simp only[wC,List.getElem?_toArray,List.getElem?_cons_zero]at m0
  have tr0:w2.cell? ⟨w.heap.size,0,none⟩=some (.string (K.str x.t)):=by rw[cell_of_row w2 _ 0 _ _ _ HR2.out];rfl
  have tr1:w2.cell? ⟨w.heap.size,1,none⟩=some (.complex .f64 (Fl.fl (Pl.pos (L.take x.o)).1) (Fl.fl (Pl.pos (L.take x.o)).2)):=by rw[cell_of_row w2 _ 1 _ _ _ HR2.out];rfl
  have HTE2:=aA (HTE.out w2 ⟨_,_,_,HW2.out⟩ (Nat.le_trans hN hsz2) (Nat.le_trans hB hsz2))
  unfold bK at HTE2
  by_cases h0:0≤Gm.find (Gm.names ts) x.t
  ·have hlt:=Gm.find_lt (Gm.names ts) x.t
   obtain⟨j,hj⟩:∃j:Nat,Gm.find (Gm.names ts) x.t=(j:Int):=⟨_,(Int.toNat_of_nonneg h0).symm⟩
   have hjl:j<ts.length:=by rw[hj]at hlt;simp[Gm.names]at hlt;omega
   obtain⟨gT,cc,e,_,_,kk,_⟩:=zaE HW2.out.t j hjl
   injection e with e1 e2 e3
   subst e1
   have hlo:¬(0<ts[j].lv):=by
    have h:=HLO.out
    rw[hj]at h
    intro q
    refine h ⟨by omega,?_⟩
    rw[show((j:Int)).toNat=j from rfl,Sh.getD_at _ _ _ (by simpa using hjl),List.getElem_map]
    exact q
   have hj0:(0:Int)≤(j:Int):=by omega
   have hjl2:(j:Int)<(ts.length:Int):=by omega
   have hgt:gT<w2.heap.size:=block_lt_of_cell (a:=⟨gT,_,none⟩) kk
   rw[hj]
   clear h0 hlt hj e2 e3 HLO HT
   generalize ts[j].lv=lvj at *
   go_wp2_with fail
   refine HTE2.out.mono ?_;rintro _ w3 ⟨rfl,hw3,hb3,hk3⟩
   obtain⟨vT3,vN3,vR3,h3⟩:=hw3
   have HW3:=aA h3
   have HB3:=aA ((HB2.out.mono hB).trans hb3)
   have HK3:=aA ((KpT.below HB2.out).trans hk3)
   obtain⟨g3,cc3,rfl,_,s1,s2,sf,hBg,hgs,cur3,hcur3⟩:=zaE h3.t i HLT.out
   have HCU:=aA hcur3
   obtain⟨n0,_,hR3⟩:=h3.at 0
   have n8:=(h3.at 8).1
   have n10:=(h3.at 10).1
   simp only[wC,List.getElem?_toArray,List.getElem?_cons_zero,List.getElem?_cons_succ]at n0 n8 n10
   have f1:=sf (i*3+1)
   have f2:=sf (i*3+2)
   have hi0:(0:Int)≤(i:Int):=by omega
   have hil2:(i:Int)<(ts'.length:Int):=by have:=HLT.out;omega
   clear h3 hb3 hk3 hcur3 sf
   go_wp2_with fail
   have N0:=fun y:Calm.OnB R w3=>(show y.1.cell? ⟨R,0,none⟩=some (.slice (some ⟨g3,0,none⟩) ts'.length cc3) by rw[cell_of_row y.1 _ 0 _ _ _ (y.2.trans HW3.out.b)];rfl)
   have N8:=fun y:Calm.OnB R w3=>(show y.1.cell? ⟨R,8,none⟩=some (.int .i64 lv) by rw[cell_of_row y.1 _ 8 _ _ _ (y.2.trans HW3.out.b)];rfl)
   refine CalmN.region_tree (fun y=>∃z:Calm.OnB R w3,y=z.1) (.one [0,1,2,3,4,5,6,7,8,9,10,11,12,13,14,15,16,17,18,19,20] 21 (.one [22,23] 24 (.fin []))) (by kernel_rfl) (by kernel_rfl) (fun _ _ d _ _ h=>by cases d <;> exact h) ⟨⟨w3.drew,rfl⟩,rfl⟩ ?_
   simp only[CalmN.wpT,CalmN.wpSt,CalmN.pickOps,List.getElem?_toArray,List.getElem?_cons_zero,List.getElem?_cons_succ]
   repeat (go_big_quiet_step (fail))
   refine wpQuiet_nil ?_
   clear N0 N8
   have hneR:R≠g3:=fun e=>by have hb:=HW3.out.b;have hcu':=HCU.out;rw[e]at hb;rw[hb]at hcu';injection hcu' with q;injection q with _ q;exact absurd q (by decide)
   have HR5:Hid ((w3.setCell ⟨g3,i*3+1,none⟩ (.int .i64 lv)).heap[R]?=w3.heap[R]?):=aA (Below.heap_setCell w3 ⟨g3,i*3+1,none⟩ (.int .i64 lv) R (by simp only;exact hneR))
   have HR6:Hid (((w3.setCell ⟨g3,i*3+1,none⟩ (.int .i64 lv)).setCell ⟨g3,i*3+2,none⟩ (.int .i64 2)).heap[R]?=w3.heap[R]?):=aA ((Below.heap_setCell _ ⟨g3,i*3+2,none⟩ (.int .i64 2) R (by simp only;exact hneR)).trans HR5.out)
   intro KK hKK
   try rw[if_pos (by rfl)]
   go_wp2_with fail
   refine hKK _ _ ⟨⟨World.drew (w3.setCell ⟨g3,i*3+1,none⟩ (.int .i64 lv)),HR5.out⟩,rfl⟩ (fun y=>∃z:Calm.OnB R w3,y=z.1) (fun _ h=>h) ⟨⟨World.drew (w3.setCell ⟨g3,i*3+1,none⟩ (.int .i64 lv)),HR5.out⟩,rfl⟩ ?_
   repeat (go_big_quiet_step (fail))
   refine wpQuiet_nil ?_
   intro KK hKK
   try rw[if_pos (by rfl)]
   go_wp2_with fail
   refine hKK _ _ ⟨⟨World.drew ((w3.setCell ⟨g3,i*3+1,none⟩ (.int .i64 lv)).setCell ⟨g3,i*3+2,none⟩ (.int .i64 2)),HR6.out⟩,rfl⟩ (fun y=>∃z:Calm.OnB R w3,y=z.1) (fun _ h=>h) ⟨⟨World.drew ((w3.setCell ⟨g3,i*3+1,none⟩ (.int .i64 lv)).setCell ⟨g3,i*3+2,none⟩ (.int .i64 2)),HR6.out⟩,rfl⟩ ?_
   refine wpQuiet_nil ?_
   go_wp2
   go_end0
   have ho:=HW3.out.t
   have u1:=World.ownsRow.stored ho (i*3+1) (.int .i64 lv)
   have u2:=World.ownsRow.stored u1.1 (i*3+2) (.int .i64 2)
   have hg:w3.grownBy ((w3.setCell ⟨g3,i*3+1,none⟩ (.int .i64 lv)).setCell ⟨g3,i*3+2,none⟩ (.int .i64 2)).drew (some g3):=(aD (aD (World.grownBy.refl _ _) _ _) _ _).trans (aE _ _)
   have hOT:aZ ((w3.setCell ⟨g3,i*3+1,none⟩ (.int .i64 lv)).setCell ⟨g3,i*3+2,none⟩ (.int .i64 2)) B (.slice (some ⟨g3,0,none⟩) ts'.length cc3) (ts'.modify i fun t=>⟨t.nm,lv,2⟩):=by
    unfold aZ
    rw[List.length_modify,←zb9 ts' i HLT.out]
    exact u2.1
   exact⟨rfl,⟨_,_,_,HW3.out.tm_put hOT hg⟩,HB3.out.grown hg (Nat.le_trans hB HB3.out.size) (fun k e=>by injection e with e;omega),HK3.out.trans (KpT.cells hg HCU.out (.inr rfl))⟩
  ·have h0':Gm.find (Gm.names ts) x.t<0:=by omega
   generalize Gm.find (Gm.names ts) x.t=z at *
   go_wp2_with fail
   refine HTE2.out.mono ?_;rintro _ w3 ⟨rfl,hw3,hb3,hk3⟩
   obtain⟨vT3,vN3,vR3,h3⟩:=hw3
   have HW3:=aA h3
   have HB3:=aA ((HB2.out.mono hB).trans hb3)
   have HK3:=aA ((KpT.below HB2.out).trans hk3)
   obtain⟨g3,cc3,rfl,_,s1,s2,sf,hBg,hgs,cur3,hcur3⟩:=zaE h3.t i HLT.out
   have HCU:=aA hcur3
   obtain⟨n0,_,hR3⟩:=h3.at 0
   have n8:=(h3.at 8).1
   have n10:=(h3.at 10).1
   simp only[wC,List.getElem?_toArray,List.getElem?_cons_zero,List.getElem?_cons_succ]at n0 n8 n10
   have f1:=sf (i*3+1)
   have f2:=sf (i*3+2)
   have hi0:(0:Int)≤(i:Int):=by omega
   have hil2:(i:Int)<(ts'.length:Int):=by have:=HLT.out;omega
   clear h3 hb3 hk3 hcur3 sf
   go_wp2_with fail
   have N0:=fun y:Calm.OnB R w3=>(show y.1.cell? ⟨R,0,none⟩=some (.slice (some ⟨g3,0,none⟩) ts'.length cc3) by rw[cell_of_row y.1 _ 0 _ _ _ (y.2.trans HW3.out.b)];rfl)
   have N8:=fun y:Calm.OnB R w3=>(show y.1.cell? ⟨R,8,none⟩=some (.int .i64 lv) by rw[cell_of_row y.1 _ 8 _ _ _ (y.2.trans HW3.out.b)];rfl)
   refine CalmN.region_tree (fun y=>∃z:Calm.OnB R w3,y=z.1) (.one [0,1,2,3,4,5,6,7,8,9,10,11,12,13,14,15,16,17,18,19,20] 21 (.one [22,23] 24 (.fin []))) (by kernel_rfl) (by kernel_rfl) (fun _ _ d _ _ h=>by cases d <;> exact h) ⟨⟨w3.drew,rfl⟩,rfl⟩ ?_
   simp only[CalmN.wpT,CalmN.wpSt,CalmN.pickOps,List.getElem?_toArray,List.getElem?_cons_zero,List.getElem?_cons_succ]
   repeat (go_big_quiet_step (fail))
   refine wpQuiet_nil ?_
   clear N0 N8
   have hneR:R≠g3:=fun e=>by have hb:=HW3.out.b;have hcu':=HCU.out;rw[e]at hb;rw[hb]at hcu';injection hcu' with q;injection q with _ q;exact absurd q (by decide)
   have HR5:Hid ((w3.setCell ⟨g3,i*3+1,none⟩ (.int .i64 lv)).heap[R]?=w3.heap[R]?):=aA (Below.heap_setCell w3 ⟨g3,i*3+1,none⟩ (.int .i64 lv) R (by simp only;exact hneR))
   have HR6:Hid (((w3.setCell ⟨g3,i*3+1,none⟩ (.int .i64 lv)).setCell ⟨g3,i*3+2,none⟩ (.int .i64 2)).heap[R]?=w3.heap[R]?):=aA ((Below.heap_setCell _ ⟨g3,i*3+2,none⟩ (.int .i64 2) R (by simp only;exact hneR)).trans HR5.out)
   intro KK hKK
   try rw[if_pos (by rfl)]
   go_wp2_with fail
   refine hKK _ _ ⟨⟨World.drew (w3.setCell ⟨g3,i*3+1,none⟩ (.int .i64 lv)),HR5.out⟩,rfl⟩ (fun y=>∃z:Calm.OnB R w3,y=z.1) (fun _ h=>h) ⟨⟨World.drew (w3.setCell ⟨g3,i*3+1,none⟩ (.int .i64 lv)),HR5.out⟩,rfl⟩ ?_
   repeat (go_big_quiet_step (fail))
   refine wpQuiet_nil ?_
   intro KK hKK
   try rw[if_pos (by rfl)]
   go_wp2_with fail
   refine hKK _ _ ⟨⟨World.drew ((w3.setCell ⟨g3,i*3+1,none⟩ (.int .i64 lv)).setCell ⟨g3,i*3+2,none⟩ (.int .i64 2)),HR6.out⟩,rfl⟩ (fun y=>∃z:Calm.OnB R w3,y=z.1) (fun _ h=>h) ⟨⟨World.drew ((w3.setCell ⟨g3,i*3+1,none⟩ (.int .i64 lv)).setCell ⟨g3,i*3+2,none⟩ (.int .i64 2)),HR6.out⟩,rfl⟩ ?_
   refine wpQuiet_nil ?_
   go_wp2
   go_end0
   have ho:=HW3.out.t
   have u1:=World.ownsRow.stored ho (i*3+1) (.int .i64 lv)
   have u2:=World.ownsRow.stored u1.1 (i*3+2) (.int .i64 2)
   have hg:w3.grownBy ((w3.setCell ⟨g3,i*3+1,none⟩ (.int .i64 lv)).setCell ⟨g3,i*3+2,none⟩ (.int .i64 2)).drew (some g3):=(aD (aD (World.grownBy.refl _ _) _ _) _ _).trans (aE _ _)
   have hOT:aZ ((w3.setCell ⟨g3,i*3+1,none⟩ (.int .i64 lv)).setCell ⟨g3,i*3+2,none⟩ (.int .i64 2)) B (.slice (some ⟨g3,0,none⟩) ts'.length cc3) (ts'.modify i fun t=>⟨t.nm,lv,2⟩):=by
    unfold aZ
    rw[List.length_modify,←zb9 ts' i HLT.out]
    exact u2.1
   exact⟨rfl,⟨_,_,_,HW3.out.tm_put hOT hg⟩,HB3.out.grown hg (Nat.le_trans hB HB3.out.size) (fun k e=>by injection e with e;omega),HK3.out.trans (KpT.cells hg HCU.out (.inr rfl))⟩
def On9 (B D:Nat) (w:World):Type:={x:World // Below B w x∧x.heap[D]?=w.heap[D]?}
instance (B D:Nat) (w:World):Nonempty (On9 B D w):=⟨⟨w,Below.refl _ _,rfl⟩⟩
structure J9 (s:Gm.S1) (ns:List (List Int)) (rs:List Gm.Rl):Prop where
 f:Gm.Fit ⟨s.ts,ns,rs,0⟩
 h:s.ts.length≤24
 v:0≤s.lv
theorem Fit.put {ts ts':List Gm.Tm} {ns:List (List Int)} {rs:List Gm.Rl} {z n:Int} {x:Tok} (h:Gm.Fit ⟨ts,ns,rs,z⟩) (hx:K.Tx x.t) (hp:Gm.put ts x=.ok (ts',n)):Gm.Fit ⟨ts',ns,rs,z⟩:=by
 rcases Gm.put_ok hp with⟨j,_,rfl,_⟩|⟨_,rfl,_,_⟩
 ·exact h
 ·refine⟨fun t ht=>?_,h.n,h.r,h.s⟩
  rcases List.mem_append.1 ht with h1|h1
  ·exact h.t t h1
  ·simp at h1;subst h1;exact⟨hx,by unfold Gm.In;simp,by unfold Gm.In;simp⟩
theorem zjM {ts ts':List Gm.Tm} {n:Int} {x:Tok} (h:ts.length≤24) (hp:Gm.put ts x=.ok (ts',n)):ts'.length≤24:=by
 rcases Gm.put_ok hp with⟨j,_,rfl,_⟩|⟨_,rfl,_,q⟩
 ·exact h
 ·simp;omega
theorem J9.step {s s':Gm.S1} {ns:List (List Int)} {rs:List Gm.Rl} {x:Tok} {k:Int} (h:J9 s ns rs) (hk:k=4∨k=5) (hx:K.Tx x.t) (hv:s.lv≤1000000) (hd:Gm.decl1 k s x=.ok s') :
  J9 s' ns rs∧s'.lv=s.lv∧(¬(0≤Gm.find (Gm.names s.ts) x.t∧0<(s.ts.map Gm.Tm.lv).getD (Gm.find (Gm.names s.ts) x.t).toNat 0))∧∃ts' n,Gm.put s.ts x=.ok (ts',n)∧s'.ts=ts'.modify n.toNat fun t=>⟨t.nm,s.lv,k-3⟩:=by
 unfold Gm.decl1 at hd
 rw[if_neg (by omega),if_neg (by omega)]at hd
 by_cases h0:0≤Gm.find (Gm.names s.ts) x.t∧0<(s.ts.map Gm.Tm.lv).getD (Gm.find (Gm.names s.ts) x.t).toNat 0
 ·rw[if_pos h0]at hd;cases hd
 ·rw[if_neg h0]at hd
  obtain⟨⟨ts',n⟩,hp,hd⟩:=Gm.R.bind_eq hd
  injection hd with hd
  subst hd
  have hf:=Fit.put h.f hx hp
  refine⟨⟨⟨fun t ht=>?_,h.f.n,h.f.r,h.f.s⟩,?_,h.v⟩,rfl,h0,ts',n,hp,rfl⟩
  ·rcases Gm.mem_modify ht with q|⟨hn,rfl⟩
   ·exact hf.t t q
   ·have:=hf.t _ (List.getElem_mem hn)
    have hv0:=h.v
    exact⟨this.1,by unfold Gm.In;simp only;omega,by unfold Gm.In;simp only;omega⟩
  ·show(ts'.modify _ _).length≤24
   rw[List.length_modify];exact zjM h.h hp
theorem zfd {k:Int} {s:Gm.S1} {xs:List Tok} {i:Nat} (h:i<xs.length):Gm.declN k s (xs.drop i)=(Gm.decl1 k s xs[i]).bind fun s=>Gm.declN k s (xs.drop (i+1)):=by
 rw[List.drop_eq_getElem_cons h,Gm.declN]
theorem zlf (L:List Int) (B N R:Nat) (ns:List (List Int)) (rs:List Gm.Rl) (ds:List Y.Dcl) (S S2:Gm.S1) (A:Option Addr) (c:Nat) (w:World) (hw:Wk w B N R S.ts ns rs S.lv) (hJ:J9 S ns rs) (hk:∀d∈ds,d.k=4∨d.k=5) (hx:∀d∈ds,(∀x∈d.ns,K.Tx x.t∧Gm.named x.t=true)∧d.ns.length≤1000000) (hr:ziE L w B A ds)
  (hN:N≤w.heap.size) (hB:B≤w.heap.size) (hlv:S.lv=0) (hlen:ds.length≤1000) (hp:Gm.decls S ds=.ok S2) :
  Calls Tryz.prog 62 #[.pointer (some ⟨R,0,none⟩),.slice A ds.length c] w fun e w'=>e=.returned (.tuple #[])∧(Wk w' B N R S2.ts ns rs S2.lv∧J9 S2 ns rs)∧Below B w w'∧KpT w w':=by
 have HR:=aA hr
 have HW0:=aA hw
 have HJ0:=aA hJ
 have HP:=aA hp
 have HKX:=aA (fun(i:Nat) (hi:i<ds.length)=>And.intro (hk _ (List.getElem_mem hi)) (hx _ (List.getElem_mem hi)))
 have HLV:=aA hlv
 clear hr hw hJ hp hk hx hlv
 go_enter Tryz.func62,Tryz.ntmps62
 go_wp2
 go_loopw [4] (fun vi wr=>∃(i:Nat) (s:Gm.S1),i≤ds.length∧vi=.int .i64 i∧Hid (Gm.decls s (ds.drop i)=.ok S2)∧Hid (J9 s ns rs)∧Hid (s.lv≤i)∧Hid (Wk wr B N R s.ts ns rs s.lv)∧Hid (Below B w wr)∧Hid (KpT w wr)) (fun vi _=>ds.length-(intOf vi).toNat)
 case atStart=>exact⟨0,S,Nat.zero_le _,rfl,HP,HJ0,aA (by rw[HLV.out];omega),HW0,aA (Below.refl _ _),aA (KpT.refl _)⟩
 case round =>
  rename World=>wo
  obtain⟨i,s,hi,rfl,HE,HJ,HSL,HW,HBW,HKT⟩:=hrel
  obtain⟨vT,vN,vR,hwr⟩:=HW.out
  have HRW:=aA hwr
  have f10:=(hwr.at 10).1
  obtain⟨f8,fz8,hRs⟩:=hwr.at 8
  simp only[wC,List.getElem?_toArray,List.getElem?_cons_zero,List.getElem?_cons_succ]at f10 f8
  clear hwr
  by_cases hlt:i<ds.length
  ·obtain⟨g,o,rfl,hgB,hc⟩:=HR.out (by omega)
   obtain⟨k0,A',c',k1,hrf⟩:=hc i hlt
   have k0:=(HBW.out.cell (p:=⟨g,o+i*2,none⟩) hgB).trans k0
   have k1:=(HBW.out.cell (p:=⟨g,o+i*2+1,none⟩) hgB).trans k1
   have hBs:=HBW.out.size
   have hgs:g<wo.heap.size:=by omega
   have hBr:B≤wo.heap.size:=by omega
   obtain⟨hdk,hdx,hdl⟩:=HKX.out i hlt
   have hE:=HE.out
   rw[zdh hlt]at hE
   obtain⟨s1,h1,h2⟩:=Gm.R.bind_eq hE
   have HN1:=aA h2
   have HD1:=aA (zdJ ds[i].ns h1)
   have hup:Gm.up ds[i].k s = {s with lv:=s.lv+1}:=by unfold Gm.up;rw[if_neg (by omega)]
   rw[hup]at h1 HD1
   have HDN:=aA h1
   have HRF:=aA hrf
   have HDX:=aA (fun(j:Nat) (hj:j<ds[i].ns.length)=>hdx _ (List.getElem_mem hj))
   clear hc hrf hE h1 h2 hdx hup
   generalize ds[i]=d at *
   rcases d with⟨kk,ms⟩
   simp only at hdk hdl HDX HRF HDN HD1 k0 k1
   have hlv1:s.lv+1≤1000000:=by have:=HSL.out;omega
   have hlv0:=HJ.out.v
   have HJ1:Hid (J9 {s with lv:=s.lv+1} ns rs):=aA ⟨HJ.out.f,HJ.out.h,by show 0≤s.lv+1;omega⟩
   have HA1:=aA (HRW.out.set 8 (.int .i64 (s.lv+1)))
   have HBs:=aA (HBW.out.setCell (p:=⟨R,8,none⟩) HRW.out.hR (.int .i64 (s.lv+1)))
   have HKs:=aA (HKT.out.trans (KpT.set HRW.out 8 (.int .i64 (s.lv+1))))
   have hzs:(wo.setCell ⟨R,8,none⟩ (.int .i64 (s.lv+1))).heap.size=wo.heap.size:=by simp
   generalize hws:wo.setCell ⟨R,8,none⟩ (.int .i64 (s.lv+1))=ws at *
   have HS1:Hid (Wk (ws.alloc (.cells #[.int .i64 kk,.slice A' ms.length c'] 131)) B N R s.ts ns rs (s.lv+1)):=aA ⟨vT,vN,vR,HA1.out.alloc _⟩
   have HB2:=aA (HBs.out.alloc (by rw[hzs];exact hBr) (.cells #[.int .i64 kk,.slice A' ms.length c'] 131))
   have HK2:=aA (HKs.out.trans (KpT.below ((Below.refl ws.heap.size ws).alloc (Nat.le_refl _) (.cells #[.int .i64 kk,.slice A' ms.length c'] 131))))
   have HDB:Hid ((ws.alloc (.cells #[.int .i64 kk,.slice A' ms.length c'] 131)).heap[wo.heap.size]?=some (.cells #[.int .i64 kk,.slice A' ms.length c'] 131 (0,0))):=aA (by rw[←hzs];exact heap_alloc_new ws _)
   have hk3:(kk != 3)=true:=by rcases hdk with rfl|rfl <;> decide
   have hk7:(kk != 7)=true:=by rcases hdk with rfl|rfl <;> decide
   have hk3':¬kk<3:=by omega
   have hk7':¬7<kk:=by omega
   go_wp2_with fail
   go_loopw [7] (fun vj wr=>∃(j:Nat) (t:Gm.S1),j≤ms.length∧vj=.int .i64 j∧Hid (Gm.declN kk t (ms.drop j)=.ok s1)∧Hid (J9 t ns rs)∧Hid (t.lv=s.lv+1)∧Hid (Wk wr B N R t.ts ns rs t.lv)∧Hid (Below B w wr)∧Hid (KpT w wr)∧Hid (wr.heap[wo.heap.size]?=some (.cells #[.int .i64 kk,.slice A' ms.length c'] 131 (0,0)))) (fun vj _=>ms.length-(intOf vj).toNat)
   case atStart=>exact⟨0,_,Nat.zero_le _,rfl,HDN,HJ1,aA rfl,HS1,HB2,HK2,HDB⟩
   case round =>
    clear hws hzs k0 k1 f10 f8 fz8 HDN HJ1 HS1 HB2 HK2 HDB HA1 HBs HKs
    obtain⟨j,t,hj,rfl,HE2,HJ2,HL2,HW2,HBW2,HKT2,HD2⟩:=hrel
    obtain⟨vT2,vN2,vR2,hwq⟩:=HW2.out
    have HRW2:=aA hwq
    obtain⟨f10,_,hRq⟩:=hwq.at 10
    simp only[wC,List.getElem?_toArray,List.getElem?_cons_zero,List.getElem?_cons_succ]at f10
    clear hwq
    have hDq:wo.heap.size<wr.heap.size:=(Array.getElem?_eq_some_iff.1 HD2.out).1
    have b0:wr.cell? ⟨wo.heap.size,0,none⟩=some (.int .i64 kk):=by rw[cell_of_row wr _ 0 _ _ _ HD2.out];rfl
    have b1:wr.cell? ⟨wo.heap.size,1,none⟩=some (.slice A' ms.length c'):=by rw[cell_of_row wr _ 1 _ _ _ HD2.out];rfl
    by_cases hjl:j<ms.length
    ·obtain⟨q,r,rfl,hqB,hcq⟩:=HRF.out (by omega)
     have m0:=(HBW2.out.cell (p:=⟨q,r+j*2,none⟩) hqB).trans (hcq j hjl).1
     have m1:=(HBW2.out.cell (p:=⟨q,r+j*2+1,none⟩) hqB).trans (hcq j hjl).2
     have hqs:q<wr.heap.size:=by have:=HBW2.out.size;omega
     have hE:=HE2.out
     rw[zfd hjl]at hE
     obtain⟨t1,h1,h2⟩:=Gm.R.bind_eq hE
     have HN2:=aA h2
     obtain⟨hx1,hx2⟩:=HDX.out j hjl
     obtain⟨j1,j2,j3,ts',n,hput,hts⟩:=HJ2.out.step hdk hx1 (by rw[HL2.out];exact hlv1) h1
     have HNX:Hid (J9 t1 ns rs∧t1.lv=s.lv+1):=aA ⟨j1,j2.trans HL2.out⟩
     have HBQ:=HBW2.out.size
     have HDCL:=aA (fun(y:World) (hy:Below wr.heap.size wr y)=>zjq L B N R t.ts ts' ns rs t.lv n kk ms[j] y (HW2.out.below hy) HJ2.out.f hx1 hx2 (Nat.le_trans hN (Nat.le_trans HBQ hy.size)) (Nat.le_trans (Nat.le_trans hB HBQ) hy.size) hdk j3 hput HJ2.out.h)
     rw[←hts,←j2]at HDCL
     have HDB9:=HDCL
     clear HDCL hcq hE h1 h2 j1 j2 j3 hput hts hx1 hx2 HBQ
     unfold bK at HDB9
     generalize K.str ms[j].t=sx at *
     unfold rfX rfY at m1
     generalize Fl.fl (Pl.pos (L.take ms[j].o)).1=X at *
     generalize Fl.fl (Pl.pos (L.take ms[j].o)).2=Y at *
     go_wp2_with fail
     have Q0:=fun y:On9 B wo.heap.size wr=>(show y.1.cell? ⟨wo.heap.size,0,none⟩=some (.int .i64 kk) by rw[cell_of_row y.1 _ 0 _ _ _ (y.2.2.trans HD2.out)];rfl)
     have Q1:=fun y:On9 B wo.heap.size wr=>(show y.1.cell? ⟨wo.heap.size,1,none⟩=some (.slice (some ⟨q,r,none⟩) ms.length c') by rw[cell_of_row y.1 _ 1 _ _ _ (y.2.2.trans HD2.out)];rfl)
     have Q2:=fun y:On9 B wo.heap.size wr=>(y.2.1.cell (p:=⟨q,r+j*2,none⟩) hqB).trans m0
     have Q3:=fun y:On9 B wo.heap.size wr=>(y.2.1.cell (p:=⟨q,r+j*2+1,none⟩) hqB).trans m1
     refine CalmN.region_tree (fun x=>∃y:On9 B wo.heap.size wr,x=y.1) (.one [0,1,2,3,4,5,6,7] 8 (.fin [])) (by kernel_rfl) (by kernel_rfl) (fun _ _ d _ _ h=>by cases d <;> exact h) ⟨⟨wr.drew,aB (Below.refl _ _) 1,rfl⟩,rfl⟩ ?_
     simp only[CalmN.wpT,CalmN.wpSt,CalmN.pickOps,List.getElem?_toArray,List.getElem?_cons_zero,List.getElem?_cons_succ]
     repeat (go_big_quiet_step (fail))
     refine wpQuiet_nil ?_
     clear Q0 Q1 Q2 Q3
     intro KK hKK
     try rw[if_pos (by rfl)]
     go_wp2_with fail
     refine(HDB9.out wr.drew (aB (Below.refl _ _) 1)).mono ?_;rintro _ w2 ⟨rfl,hw2,hb2,hk2⟩
     have HB3:=aA ((aB (Below.refl B wr) 1).trans hb2)
     have HK3:Hid (KpT wr w2):=aA hk2
     have HW3:=aA hw2
     have HD3:=aA (HK3.out _ _ _ HD2.out (by decide) (by decide))
     have HE3:Hid (w2.heap[wo.heap.size]?=wr.heap[wo.heap.size]?):=aA (HD3.out.trans HD2.out.symm)
     clear hw2 hb2 hk2
     go_wp2_with fail
     refine hKK _ _ ⟨⟨w2,HB3.out,HE3.out⟩,rfl⟩ (fun x=>∃y:On9 B wo.heap.size wr,x=y.1) (fun _ h=>h) ⟨⟨w2,HB3.out,HE3.out⟩,rfl⟩ ?_
     refine wpQuiet_nil ?_
     go_wp2
     go_roundw
     case rel=>exact⟨j+1,t1,hjl,by go_num,HN2,aA HNX.out.1,aA HNX.out.2,HW3,aA (HBW2.out.trans HB3.out),aA (HKT2.out.trans HK3.out),HD3⟩
     case measure=>simp[intOf];omega
    ·obtain rfl:j=ms.length:=by omega
     have hE:=HE2.out
     rw[List.drop_length,Gm.declN]at hE
     injection hE with hE
     subst hE
     go_wp2_with fail
     go_roundw
     case rel=>exact⟨i+1,t,hlt,by go_num,HN1,HJ2,aA (by rw[HL2.out];have:=HSL.out;omega),HW2,HBW2,HKT2⟩
     case measure=>simp[intOf];omega
  ·obtain rfl:i=ds.length:=by omega
   have hE:=HE.out
   rw[List.drop_length,Gm.decls]at hE
   injection hE with hE
   subst hE
   go_wp2
   go_end0
   exact⟨rfl,⟨HW.out,HJ.out⟩,HBW.out,HKT.out⟩
end Go.Proofs.YtkfelkpilaipnaaGreatDoor
namespace Go.Proofs.YtkfelkpilaipnaaGreatDoor
set_option maxRecDepth 100000
set_option maxHeartbeats 40000000
namespace Sh
open Y
def Ks (xs:List Tok) (ws:List (List Int)):Prop:=xs.map key=ws.map zlw
theorem Ks.nil {xs:List Tok} (h:Ks xs []):xs=[]:=by simpa[Ks] using h
theorem Ks.cons {xs:List Tok} {w:List Int} {ws:List (List Int)} (h:Ks xs (w::ws)):∃x r,xs=x::r∧x.k=wkind w∧x.t=aW (wkind w) w∧Ks r ws:=by
 unfold Ks at h
 rw[List.map_cons]at h
 obtain⟨x,r,h1,h2,h3⟩:=List.map_eq_cons_iff.1 h
 have h4:=congrArg Prod.fst h2
 have h5:=congrArg Prod.snd h2
 exact⟨x,r,h1,h4,h5,h3⟩
theorem Ks.app {xs:List Tok} {vs ws:List (List Int)} (h:Ks xs (vs++ws)):∃ys zs,xs=ys++zs∧Ks ys vs∧Ks zs ws:=by
 unfold Ks at h
 rw[List.map_append]at h
 obtain⟨ys,zs,h1,h2,h3⟩:=List.map_eq_append_iff.1 h
 exact⟨ys,zs,h1,h2,h3⟩
theorem Ks.len {xs:List Tok} {ws:List (List Int)} (h:Ks xs ws):xs.length=ws.length:=by
 have:=congrArg List.length h
 simpa using this
def isR (w:List Int):Prop:=wkind w=1∨wkind w=2
theorem Ks.refs {ys zs:List Tok} {vs:List (List Int)} (h:Ks ys vs) (hv:∀w∈vs,isR w) (hz:is [1,2] zs=false):(ys++zs).takeWhile isRef=ys∧(ys++zs).dropWhile isRef=zs∧ys.map Tok.t=vs:=by
 induction vs generalizing ys with
 | nil=>obtain rfl:=h.nil;have:=refs_end hz;simp only[List.nil_append];exact⟨this.1,this.2,rfl⟩
 | cons w vs ih =>
  obtain⟨x,r,rfl,hk,ht,hr⟩:=h.cons
  have hw:=hv w (by simp)
  obtain⟨i1,i2,i3⟩:=ih hr (fun v hv'=>hv v (by simp[hv']))
  have hx:isRef x=true:=by
   unfold isRef;rw[hk];rcases hw with e|e <;> rw[e] <;> decide
  rw[List.cons_append,List.takeWhile_cons,List.dropWhile_cons,if_pos hx,if_pos hx,i1,i2,List.map_cons,i3,ht,zdU hw]
  exact⟨rfl,rfl,rfl⟩
theorem zgy {xs:List Tok} {w:List Int} {ws:List (List Int)} (h:Ks xs (w::ws)) (ks:List Int) (hw:ks.contains (wkind w)=false):is ks xs=false:=by
 obtain⟨x,r,rfl,hk,_,_⟩:=h.cons
 show ks.contains x.k=false
 rw[hk,hw]
theorem zjP {xs:List Tok} {w:List Int} {ws:List (List Int)} (h:Ks xs (w::ws)) (ks:List Int) (hw:ks.contains (wkind w)=true):is ks xs=true:=by
 obtain⟨x,r,rfl,hk,_,_⟩:=h.cons
 show ks.contains x.k=true
 rw[hk,hw]
theorem zar {xs:List Tok} {w:List Int} {ws:List (List Int)} (h:Ks xs (w::ws)) (ks:List Int) (hw:ks.contains (wkind w)=true):∃x r,take ks xs=.ok x r∧x.k=wkind w∧x.t=aW (wkind w) w∧Ks r ws:=by
 obtain⟨x,r,rfl,hk,ht,hr⟩:=h.cons
 refine⟨x,r,?_,hk,ht,hr⟩
 rw[take_cons,hk,if_pos hw]
abbrev DD:=Int×List (List Int)
def dd (d:Dcl):DD:=(d.k,d.ns.map Tok.t)
structure DW (d:DD) (ws:List (List Int)):Prop where
 w:∃c n r,ws=c::n::r∧wkind c=d.1∧d.2=n::r∧((d.1=7∧r=[]∧wkind n=1)∨((d.1=3∨d.1=4∨d.1=5∨d.1=6)∧∀v∈n::r,isR v))
theorem zgH {d:DD} {ws rest:List (List Int)} {c:List Int} (hd:DW d ws) {xs:List Tok} (h:Ks xs (ws++c::rest)) (hc:[(1:Int),2].contains (wkind c)=false) :
  ∃x r,decl xs=.ok x r∧dd x=d∧Ks r (c::rest):=by
 obtain⟨c0,n,r0,rfl,hk,hd2,hr⟩:=hd.w
 obtain⟨k,d2⟩:=d
 simp only at hk hd2 hr
 subst hd2
 rw[List.cons_append,List.cons_append]at h
 have hk3:[(3:Int),4,5,6,7].contains (wkind c0)=true:=by
  rw[hk];rcases hr with⟨rfl,_⟩|⟨rfl|rfl|rfl|rfl,_⟩ <;> decide
 obtain⟨x,m,h1,h2,h3,h4⟩:=zar h _ hk3
 unfold decl
 rw[h1,bind_ok]
 rcases hr with⟨rfl,rfl,hn⟩|⟨hk',hn⟩
 ·rw[if_pos (by rw[h2,hk])]
  obtain⟨y,m2,g1,g2,g3,g4⟩:=zar h4 [1] (by rw[hn];decide)
  rw[g1,bind_ok]
  refine⟨_,_,rfl,?_,by simpa using g4⟩
  unfold dd
  simp only[List.map_cons,List.map_nil]
  rw[g3,zdU (.inl hn)]
 ·rw[if_neg (by rw[h2,hk];rcases hk' with rfl|rfl|rfl|rfl <;> decide)]
  have hn0:=hn n (by simp)
  obtain⟨y,m2,g1,g2,g3,g4⟩:=zar h4 [1,2] (by rcases hn0 with e|e <;> rw[e] <;> decide)
  rw[g1,bind_ok]
  obtain⟨ys,zs,rfl,q1,q2⟩:=g4.app
  obtain⟨i1,i2,i3⟩:=q1.refs (fun v hv=>hn v (by simp[hv])) (zgy q2 _ hc)
  rw[i1,i2]
  refine⟨_,_,rfl,?_,q2⟩
  unfold dd
  simp only[List.map_cons]
  rw[h2,hk,i3,g3,zdU hn0]
theorem DW.head {d:DD} {ws:List (List Int)} (h:DW d ws):∃c r,ws=c::r∧[(1:Int),2].contains (wkind c)=false∧[(9:Int)].contains (wkind c)=false:=by
 obtain⟨c,n,r,rfl,hk,_,hr⟩:=h.w
 refine⟨c,n::r,rfl,?_⟩
 rw[hk]
 rcases hr with⟨e,_⟩|⟨e|e|e|e,_⟩ <;> rw[e] <;> decide
theorem zcA:∀(D:List (DD×List (List Int))) (rest:List (List Int)) (f:Nat) (acc:List Dcl) (xs:List Tok),(∀p∈D,DW p.1 p.2)→D.length<f→Ks xs (D.flatMap Prod.snd++wMark::rest) →
  ∃ds r,decls f acc xs=.ok (acc++ds) r∧ds.map dd=D.map Prod.fst∧Ks r (wMark::rest)
 | [],rest,f,acc,xs,_,hf,h=>by
  obtain⟨f,rfl⟩:∃g,f=g+1:=⟨f-1,by simp at hf;omega⟩
  refine⟨[],xs,?_,rfl,h⟩
  rw[decls,if_pos (zjP (by simpa using h) [9] (by rw[zb8.2];decide)),List.append_nil]
 | (d,ws)::D,rest,f,acc,xs,hd,hf,h=>by
  obtain⟨f,rfl⟩:∃g,f=g+1:=⟨f-1,by simp at hf;omega⟩
  have h0:=hd (d,ws) (by simp)
  obtain⟨c,r,hc,n1,n2⟩:=h0.head
  simp only at hc
  have h':Ks xs (ws++(D.flatMap Prod.snd++wMark::rest)):=by simpa using h
  have hnext:∃c' rest',D.flatMap Prod.snd++wMark::rest=c'::rest'∧[(1:Int),2].contains (wkind c')=false:=by
   cases D with
   | nil=>exact⟨wMark,rest,rfl,by rw[zb8.2];decide⟩
   | cons p D =>
    obtain⟨c',r',e',m1,_⟩:=(hd p (by simp)).head
    exact⟨c',r'++(D.flatMap Prod.snd++wMark::rest),by rw[List.flatMap_cons,e'];simp,m1⟩
  obtain⟨c',rest',e',m1⟩:=hnext
  have hno:is [9] xs=false:=by
   rw[hc]at h'
   exact zgy h' _ n2
  rw[decls,if_neg (by rw[hno];simp)]
  rw[e']at h'
  obtain⟨x,r1,h1,h2,h3⟩:=zgH h0 h' m1
  rw[h1,bind_ok]
  rw[←e']at h3
  obtain⟨ds,r2,g1,g2,g3⟩:=zcA D rest f (acc++[x]) r1 (fun p hp=>hd p (by simp[hp])) (by simp at hf;omega) h3
  exact⟨x::ds,r2,by rw[g1];simp,by rw[List.map_cons,h2,g2];rfl,g3⟩
structure PD where
 l:List Int
 r:List (List Int)
 p:Option (List Int)
def pd (p:Prd):PD:=⟨p.l.t,p.r.map Tok.t,p.p.map Tok.t⟩
def PD.words (d:PD):List (List Int):=d.l::wColon::(d.r++((match d.p with|none=>[]|some p=>[wPrec,p])++[wSemi]))
structure PD.Ok (d:PD):Prop where
 l:wkind d.l=1
 r:∀w∈d.r,isR w
 p:∀w,d.p=some w→isR w
theorem zcw {d:PD} (hd:d.Ok) {rest:List (List Int)} {xs:List Tok} (acc:List Prd) (h:Ks xs (d.words++rest)) :
  ∃x r,group acc xs=.ok (acc++[x]) r∧pd x=d∧Ks r rest:=by
 obtain⟨dl,dr,dp⟩:=d
 obtain⟨k1,k2,k3⟩:=hd
 simp only at k1 k2 k3
 unfold PD.words at h
 simp only[List.cons_append,List.append_assoc]at h
 obtain⟨x,m,h1,h2,h3,h4⟩:=zar h [1] (by rw[k1];decide)
 obtain⟨y,m2,g1,g2,g3,g4⟩:=zar h4 [10] (by rw[zdl.2];decide)
 unfold group
 rw[h1,bind_ok,g1,bind_ok,alts]
 unfold Y.rule
 obtain⟨ys,zs,rfl,q1,q2⟩:=g4.app
 have hx:x.t=dl:=by rw[h3,zdU (.inl k1)]
 cases dp with
 | none =>
  simp only[List.nil_append]at q2
  obtain⟨i1,i2,i3⟩:=q1.refs k2 (zgy q2 _ (by rw[za2.2];decide))
  rw[i1,i2]
  unfold rule2
  rw[if_neg (by rw[zgy q2 [8] (by rw[za2.2];decide)];simp),bind_ok]
  obtain⟨z,m3,j1,j2,j3,j4⟩:=zar q2 [11,12] (by rw[za2.2];decide)
  rw[j1,bind_ok,if_neg (by rw[j2,za2.2];decide)]
  refine⟨_,_,rfl,?_,by simpa using j4⟩
  unfold pd
  simp only[Option.map_none]
  rw[hx,i3]
 | some p =>
  have kp:=k3 p rfl
  simp only[List.nil_append,List.cons_append]at q2
  obtain⟨i1,i2,i3⟩:=q1.refs k2 (zgy q2 _ (by rw[zb7.2];decide))
  rw[i1,i2]
  unfold rule2
  rw[if_pos (zjP q2 [8] (by rw[zb7.2];decide))]
  obtain⟨z0,m0,a1,a2,a3,a4⟩:=zar q2 [8] (by rw[zb7.2];decide)
  obtain⟨z1,m1,b1,b2,b3,b4⟩:=zar a4 [1,2] (by rcases kp with e|e <;> rw[e] <;> decide)
  rw[a1,bind_ok,b1,bind_ok,bind_ok]
  obtain⟨z,m3,j1,j2,j3,j4⟩:=zar b4 [11,12] (by rw[za2.2];decide)
  rw[j1,bind_ok,if_neg (by rw[j2,za2.2];decide)]
  refine⟨_,_,rfl,?_,by simpa using j4⟩
  unfold pd
  simp only[Option.map_some]
  rw[hx,i3,b3,zdU kp]
theorem PD.head {d:PD} (hd:d.Ok) (rest:List (List Int)):∃c r,d.words++rest=c::r∧[(9:Int)].contains (wkind c)=false:=⟨d.l,_,rfl,by rw[hd.l];decide⟩
theorem zbS:∀(D:List PD) (f:Nat) (acc:List Prd) (xs:List Tok),(∀p∈D,p.Ok)→D.length<f→Ks xs (D.flatMap PD.words) →
  ∃ps,groups f acc xs=.ok (acc++ps) []∧ps.map pd=D
 | [],f,acc,xs,_,hf,h=>by
  obtain⟨f,rfl⟩:∃g,f=g+1:=⟨f-1,by simp at hf;omega⟩
  obtain rfl:=Ks.nil (by simpa using h)
  exact⟨[],by rw[groups,if_neg (by simp),List.append_nil],rfl⟩
 | d::D,f,acc,xs,hd,hf,h=>by
  obtain⟨f,rfl⟩:∃g,f=g+1:=⟨f-1,by simp at hf;omega⟩
  have h0:=hd d (by simp)
  rw[List.flatMap_cons]at h
  have hno:is [9] xs=false:=zgy (w:=d.l) h _ (by rw[h0.l];decide)
  have hlen:xs.length≠0:=by rw[h.len];simp[PD.words]
  rw[groups,if_pos ⟨hlen,hno⟩]
  obtain⟨x,r,h1,h2,h3⟩:=zcw h0 acc h
  rw[h1,bind_ok]
  obtain⟨ps,g1,g2⟩:=zbS D f (acc++[x]) r (fun p hp=>hd p (by simp[hp])) (by simp at hf;omega) h3
  exact⟨x::ps,by rw[g1];simp,by rw[List.map_cons,h2,g2]⟩
theorem zgY (D:List (DD×List (List Int))) (h:∀p∈D,DW p.1 p.2):D.length≤(D.flatMap Prod.snd).length:=by
 induction D with
 | nil=>simp
 | cons p D ih =>
  obtain⟨c,n,r,e,_⟩:=(h p (by simp)).w
  have:=ih (fun q hq=>h q (by simp[hq]))
  rw[List.flatMap_cons,List.length_append,e]
  simp only[List.length_cons]
  omega
theorem zgk (D:List PD):D.length≤(D.flatMap PD.words).length:=by
 induction D with
 | nil=>simp
 | cons p D ih =>
  rw[List.flatMap_cons,List.length_append]
  simp only[List.length_cons,PD.words]
  omega
theorem zd3 (D:List (DD×List (List Int))) (P:List PD) (xs:List Tok) (hD:∀p∈D,DW p.1 p.2) (hP:∀p∈P,p.Ok) (h0:P≠[]) (h:Ks xs (D.flatMap Prod.snd++wMark::P.flatMap PD.words)) :
  ∃ds ps,source xs=.ok (ds,ps) []∧ds.map dd=D.map Prod.fst∧ps.map pd=P:=by
 have hl:=h.len
 have w1:=zgY D hD
 rw[List.length_append]at hl
 unfold source
 obtain⟨ds,r,h1,h2,h3⟩:=zcA D _ (xs.length+1) [] xs hD (by omega) h
 rw[h1,bind_ok]
 obtain⟨m,r2,g1,_,_,g4⟩:=zar h3 [9] (by rw[zb8.2];decide)
 rw[g1,bind_ok]
 cases P with
 | nil=>exact absurd rfl h0
 | cons p P =>
  rw[List.flatMap_cons]at g4
  obtain⟨x,r3,j1,j2,j3⟩:=zcw (hP p (by simp)) [] g4
  rw[j1,bind_ok]
  have hl3:=j3.len
  have w2:=zgk P
  obtain⟨ps,e1,e2⟩:=zbS P (r3.length+1) ([]++[x]) r3 (fun q hq=>hP q (by simp[hq])) (by omega) j3
  rw[e1,bind_ok]
  refine⟨ds,x::ps,?_,h2,by rw[List.map_cons,j2,e2]⟩
  unfold tail
  rw[if_neg (by simp[is])]
  unfold tail2
  rw[if_pos (by simp),bind_ok]
  simp
end Sh
namespace Gm
structure Rt (G:Gr):Prop where
 tn:∀i (h:i<G.ts.length),named G.ts[i].nm=true
 td:∀i (h:i<G.ts.length),find (names G.ts) G.ts[i].nm=(i:Int)
 tl:∀t∈G.ts,0≤t.lv∧t.lv≤24∧0≤t.wy∧t.wy≤3∧(t.lv=0↔t.wy=0)
 tv:∀t∈G.ts,∀n:Nat,1≤n→(n:Int)≤t.lv→lev (n:Int) G.ts 0=true
 t24:G.ts.length≤24
 n1:1≤G.ns.length∧G.ns.length≤16
 nn:∀i (h:i<G.ns.length),T.isName G.ns[i]=true∧find G.ns G.ns[i]=(i:Int)∧find (names G.ts) G.ns[i]<0
 r1:1≤G.rs.length∧G.rs.length≤40
 s0:0≤G.st∧G.st<G.ns.length
 rr:rules G G.rs (-1)=true
theorem rt_of {G:Gr} (h:right G=true):Rt G:=by
 unfold right terms nons at h
 simp only[Bool.and_eq_true,decide_eq_true_eq]at h
 obtain⟨⟨⟨⟨⟨⟨⟨h1,h2⟩,⟨⟨h3,h4⟩,h5⟩⟩,h6⟩,h7⟩,h8⟩,h9⟩,h10⟩:=h
 have ht:∀i (h:i<G.ts.length),named G.ts[i].nm=true∧find (names G.ts) G.ts[i].nm=(i:Int)∧(0≤G.ts[i].lv∧G.ts[i].lv≤24∧0≤G.ts[i].wy∧G.ts[i].wy≤3∧(G.ts[i].lv=0↔G.ts[i].wy=0))∧∀n,n<G.ts[i].lv.toNat→lev ((n+1:Nat):Int) G.ts 0=true:=by
  intro i hi
  have:=h2 i hi
  unfold term1 at this
  simp only[Bool.and_eq_true,decide_eq_true_eq,beq_iff_eq]at this
  obtain⟨⟨⟨⟨⟨⟨⟨a1,a2⟩,a3⟩,a4⟩,a5⟩,a6⟩,a7⟩,a8⟩:=this
  refine⟨a1,a2,⟨a3,a4,a5,a6,?_⟩,a8⟩
  have:=congrArg (· = true) a7
  simp only[beq_iff_eq,eq_iff_iff]at this
  exact this
 refine⟨fun i hi=>(ht i hi).1,fun i hi=>(ht i hi).2.1,?_,?_,h1,⟨h3,h4⟩,?_,⟨h6,h7⟩,⟨h8,h9⟩,h10⟩
 ·intro t hm
  obtain⟨i,hi,rfl⟩:=List.getElem_of_mem hm
  exact(ht i hi).2.2.1
 ·intro t hm n hn hl
  obtain⟨i,hi,rfl⟩:=List.getElem_of_mem hm
  have:=(ht i hi).2.2.2 (n-1) (by omega)
  rwa [show n-1+1=n by omega]at this
 ·intro i hi
  have:=h5 i hi
  unfold non1 non term at this
  simp only[Bool.and_eq_true,decide_eq_true_eq,beq_iff_eq]at this
  exact⟨this.1.1,this.1.2,this.2⟩
theorem ze7 {n:Int}:∀(ts:List Tm) (way:Int),lev n ts way=true→way≠0→∀t∈ts,t.lv=n→t.wy=way
 | [],_,_,_,_,h,_=>by cases h
 | t::r,way,h,hw,x,hx,hl=>by
  rw[lev]at h
  by_cases h1:t.lv≠n
  ·rw[if_pos h1]at h
   rcases List.mem_cons.1 hx with rfl|hx
   ·exact absurd hl h1
   ·exact ze7 r way h hw x hx hl
  ·rw[if_neg h1]at h
   by_cases h2:way≠0∧way≠t.wy
   ·rw[if_pos h2]at h;cases h
   ·rw[if_neg h2]at h
    have hwy:t.wy=way:=by
     by_cases e:way=t.wy
     ·exact e.symm
     ·exact absurd ⟨hw,e⟩ h2
    rcases List.mem_cons.1 hx with rfl|hx
    ·exact hwy
    ·rw[hwy]at h
     exact ze7 r way h hw x hx hl
theorem zfO {n:Int}:∀(ts:List Tm),lev n ts 0=true→(∀t∈ts,t.lv=n→t.wy≠0)→∃t r,ts.filter (fun t=>t.lv==n)=t::r∧∀x∈ts,x.lv=n→x.wy=t.wy
 | [],h,_=>by simp[lev]at h
 | t::r,h,hz=>by
  rw[lev]at h
  by_cases h1:t.lv≠n
  ·rw[if_pos h1]at h
   obtain⟨y,q,e,g⟩:=zfO r h (fun x hx=>hz x (by simp[hx]))
   refine⟨y,q,?_,fun x hx hl=>?_⟩
   ·rw[List.filter_cons,if_neg (by simpa using h1)];exact e
   ·rcases List.mem_cons.1 hx with rfl|hx
    ·exact absurd hl h1
    ·exact g x hx hl
  ·rw[if_neg h1,if_neg (by simp)]at h
   have h1':t.lv=n:=Classical.not_not.1 h1
   have hw:=hz t (by simp) h1'
   refine⟨t,r.filter (fun t=>t.lv==n),?_,fun x hx hl=>?_⟩
   ·rw[List.filter_cons,if_pos (by simpa using h1')]
   ·rcases List.mem_cons.1 hx with rfl|hx
    ·rfl
    ·exact ze7 r t.wy h hw x hx hl
theorem zey {l:List (List Int)} {s:List Int} (h:s ∉ l):find l s = -1:=by
 have h1:=find_none.2 h
 have:=find_ge l s
 omega
theorem zaM {ts:List Tm} (i:Nat) (h:i<ts.length):(names ts).getD i []=ts[i].nm:=by
 unfold names
 rw[Sh.getD_at _ _ _ (by simpa using h),List.getElem_map]
end Gm
namespace Sh
open Gm Y
theorem top_ge (ts:List Tm):∀t∈ts,t.lv≤top ts:=by
 have key:∀(ts:List Tm) (m:Int),m≤ts.foldl (fun m t=>if m<t.lv then t.lv else m) m∧∀t∈ts,t.lv≤ts.foldl (fun m t=>if m<t.lv then t.lv else m) m:=by
  intro ts
  induction ts with
  | nil=>intro m;exact⟨Int.le_refl _,fun t h=>by cases h⟩
  | cons x r ih =>
   intro m
   rw[List.foldl_cons]
   obtain⟨h1,h2⟩:=ih (if m<x.lv then x.lv else m)
   have hm:m≤(if m<x.lv then x.lv else m)∧x.lv≤(if m<x.lv then x.lv else m):=by split <;> omega
   generalize (if m<x.lv then x.lv else m)=m' at *
   refine⟨by omega,fun t ht=>?_⟩
   rcases List.mem_cons.1 ht with rfl|ht
   ·omega
   ·exact h2 t ht
 exact fun t ht=>(key ts 0).2 t ht
theorem top_has (ts:List Tm):top ts=0 ∨ ∃t∈ts,t.lv=top ts:=by
 have key:∀(ts:List Tm) (m:Int),ts.foldl (fun m t=>if m<t.lv then t.lv else m) m=m ∨ ∃t∈ts,t.lv=ts.foldl (fun m t=>if m<t.lv then t.lv else m) m:=by
  intro ts
  induction ts with
  | nil=>intro m;exact .inl rfl
  | cons x r ih =>
   intro m
   rw[List.foldl_cons]
   rcases ih (if m<x.lv then x.lv else m) with h|⟨t,ht,e⟩
   ·by_cases hm:m<x.lv
    ·right;exact⟨x,by simp,by rw[h,if_pos hm]⟩
    ·left;rw[h,if_neg hm]
   ·exact .inr ⟨t,by simp[ht],e⟩
 exact key ts 0
theorem top_nn (ts:List Tm) (h:∀t∈ts,0≤t.lv):0≤top ts:=by
 rcases top_has ts with e|⟨t,ht,e⟩
 ·omega
 ·rw[←e];exact h t ht
theorem level_some {G:Gr} (hg:Rt G) (i:Nat) (hi:i<(top G.ts).toNat):∃t r,onLev G.ts ((i+1:Nat):Int)=t::r∧(t.wy=1∨t.wy=2∨t.wy=3)∧∀x∈G.ts,x.lv=((i+1:Nat):Int)→x.wy=t.wy:=by
 have hm:∃t∈G.ts,((i+1:Nat):Int)≤t.lv:=by
  rcases top_has G.ts with e|⟨t,ht,e⟩
  ·omega
  ·exact⟨t,ht,by omega⟩
 obtain⟨t0,ht0,hl0⟩:=hm
 obtain⟨t,r,e,g⟩:=zfO G.ts (hg.tv t0 ht0 (i+1) (by omega) hl0) (fun x hx hl=>by have:=hg.tl x hx;omega)
 refine⟨t,r,e,?_,g⟩
 have hmem:t∈G.ts.filter (fun t=>t.lv==((i+1:Nat):Int)):=by rw[e];simp
 obtain⟨h1,h2⟩:=List.mem_filter.1 hmem
 have h2:t.lv=((i+1:Nat):Int):=by simpa using h2
 have:=hg.tl t h1
 omega
theorem zgZ {a:Int} (h:a=1∨a=2∨a=3):Wd (wayW a)∧wkind (wayW a)=a+3:=by
 rcases h with rfl|rfl|rfl
 ·exact zj0
 ·exact ziG
 ·exact zkO
def dTok (t:Tm):DD×List (List Int):=((3,[t.nm]),[wToken,t.nm])
def dLev (ts:List Tm) (n:Int):DD×List (List Int):=((match onLev ts n with | []=>0|t::_=>t.wy+3,(onLev ts n).map Tm.nm),level ts n)
def dLevs (ts:List Tm):List (DD×List (List Int)):=(List.range (top ts).toNat).map fun i=>dLev ts ((i+1:Nat):Int)
def zlk (G:Gr):DD×List (List Int):=((7,[G.ns.getD G.st.toNat []]),[wStart,G.ns.getD G.st.toNat []])
def dAll (G:Gr):List (DD×List (List Int)):=G.ts.map dTok++dLevs G.ts++[zlk G]
def pOf (G:Gr) (r:Rl):PD:=⟨G.ns.getD r.l.toNat [],r.r.map (name G),if r.p=last r.r then none else some (name G r.p)⟩
theorem zhH (G:Gr) (r:Rl):(pOf G r).words=rule G r:=by
 unfold pOf PD.words rule
 by_cases h:r.p=last r.r
 ·simp[if_pos h]
 ·simp[if_neg h]
theorem zc8 (G:Gr):(lines G).flatten=(dAll G).flatMap Prod.snd++wMark::(G.rs.map (pOf G)).flatMap PD.words:=by
 have h1:(G.rs.map (pOf G)).flatMap PD.words=(G.rs.map (rule G)).flatten:=by
  rw[List.flatMap_def,List.map_map]
  congr 1
  exact List.map_congr_left fun r _=>zhH G r
 have h2:(dAll G).flatMap Prod.snd=(tokens G.ts++levels G.ts++[[wStart,G.ns.getD G.st.toNat []]]).flatten:=by
  rw[List.flatMap_def]
  congr 1
  unfold dAll tokens levels dLevs
  simp only[List.map_append,List.map_map]
  rfl
 rw[h1,h2]
 unfold lines
 simp only[List.flatten_append,List.flatten_cons,List.flatten_nil,List.append_nil,List.append_assoc,List.cons_append,List.nil_append]
end Sh
namespace Gm
def zfZ (t:Tm):Tm:=⟨t.nm,0,0⟩
def bS (p:Tm→Bool) (ts:List Tm):List Tm:=ts.map fun t=>if p t then t else zfZ t
theorem zbH (p:Tm→Bool) (ts:List Tm):names (bS p ts)=names ts:=by
 unfold names bS
 rw[List.map_map]
 refine List.map_congr_left fun t _=>?_
 simp only[Function.comp]
 split <;> rfl
theorem zgs (ts:List Tm):names (ts.map zfZ)=names ts:=by
 unfold names
 rw[List.map_map]
 rfl
theorem zee {ts:List Tm} {x:Tok} (h:0≤find (names ts) x.t):put ts x=.ok (ts,find (names ts) x.t):=by
 unfold put;rw[if_pos h]
theorem zfI {G:Gr} (hg:Rt G) (i j:Nat) (hi:i<G.ts.length) (hj:j<G.ts.length) (h:G.ts[i].nm=G.ts[j].nm):i=j:=by
 have h1:=hg.td i hi
 have h2:=hg.td j hj
 rw[h]at h1
 omega
theorem zk3 {G:Gr} (hg:Rt G) {s t:Tm} (hs:s∈G.ts) (ht:t∈G.ts) (h:s.nm=t.nm):s=t:=by
 obtain⟨i,hi,rfl⟩:=List.getElem_of_mem hs
 obtain⟨j,hj,rfl⟩:=List.getElem_of_mem ht
 have:=zfI hg i j hi hj h
 subst this
 rfl
theorem zeC {G:Gr} (hg:Rt G):∀(rest done:List Tm) (ds1 ds2:List Y.Dcl),G.ts=done++rest→ds1.map Sh.dd=rest.map (fun t=>((3,[t.nm]):Sh.DD)) →
  decls ⟨done.map zfZ,names done,none,0⟩ (ds1++ds2)=decls ⟨G.ts.map zfZ,names G.ts,none,0⟩ ds2
 | [],done,ds1,ds2,h,hd=>by
  obtain rfl:ds1=[]:=by simpa using hd
  rw[h,List.append_nil]
  rfl
 | t::rest,done,ds1,ds2,h,hd=>by
  rw[List.map_cons]at hd
  obtain⟨d,ds1,rfl,h1,h2⟩:=List.map_eq_cons_iff.1 hd
  have hk:d.k=3:=congrArg Prod.fst h1
  have hn:d.ns.map Tok.t=[t.nm]:=congrArg Prod.snd h1
  obtain⟨x,l,hx,hxt,hl⟩:=List.map_eq_cons_iff.1 hn
  obtain rfl:l=[]:=by simpa using hl
  have hlen:done.length<G.ts.length:=by rw[h];simp
  have hti:G.ts[done.length]=t:=by simp[h]
  have hnot:t.nm ∉ names done:=by
   intro hm
   unfold names at hm
   obtain⟨y,hy,e⟩:=List.mem_map.1 hm
   obtain⟨j,hj,rfl⟩:=List.getElem_of_mem hy
   have hj2:G.ts[j]=done[j]:=by simp[h,List.getElem_append_left hj]
   have:=zfI hg j done.length (by omega) hlen (by rw[hti,hj2,e])
   omega
  have hput:put (done.map zfZ) x=.ok (done.map zfZ++[⟨x.t,0,0⟩],((done.map zfZ).length:Int)):=by
   unfold put
   rw[zgs,hxt,if_neg (by have:=find_none.2 hnot;omega),if_neg (by rw[List.length_map];have:=hg.t24;omega)]
  rw[List.cons_append,decls,hx,hk,declN,decl1,if_neg (by decide),if_pos rfl]
  have hup:up 3 (⟨done.map zfZ,names done,none,0⟩:S1)=⟨done.map zfZ,names done,none,0⟩:=by unfold up;rw[if_pos (.inl rfl)]
  rw[hup]
  simp only
  rw[hxt,if_neg hnot,hput]
  simp only[R.bind_ok]
  rw[declN]
  simp only[R.bind_ok]
  have:=zeC hg rest (done++[t]) ds1 ds2 (by rw[h];simp) h2
  rw[List.map_append,show names (done++[t])=names done++[t.nm] by simp[names]]at this
  rw[hxt]
  exact this
theorem zhE (p:Tm→Bool) (ts:List Tm) (j:Nat) (h:j<(bS p ts).length) (h':j<ts.length):(bS p ts)[j]=if p ts[j] then ts[j] else zfZ ts[j] :=
 List.getElem_map (fun t=>if p t then t else zfZ t) (l:=ts) (i:=j)
theorem zhD {G:Gr} (hg:Rt G) (p:Tm→Bool) (q:Tm→Bool) (i:Nat) (hi:i<G.ts.length) (n w:Int) (hl:G.ts[i].lv=n) (hw:G.ts[i].wy=w)
  (hq:∀t∈G.ts,q t=(p t||decide (t.nm=G.ts[i].nm))) :
  (bS p G.ts).modify i (fun t=>⟨t.nm,n,w⟩)=bS q G.ts:=by
 apply List.ext_getElem
 ·simp[bS]
 ·intro j h1 h2
  have hj:j<G.ts.length:=by simpa[bS] using h2
  have hqj:=hq _ (List.getElem_mem hj)
  rw[List.getElem_modify,zhE q G.ts j h2 hj,zhE p G.ts j (by simpa[bS] using hj) hj,hqj]
  by_cases hij:i=j
  ·subst hij
   have e:(if p G.ts[i]=true then G.ts[i] else zfZ G.ts[i]).nm=G.ts[i].nm:=by split <;> rfl
   rw[if_pos rfl,e,←hl,←hw]
   simp only[decide_true,Bool.or_true,if_true]
  ·rw[if_neg hij]
   have:¬G.ts[j].nm=G.ts[i].nm:=fun e=>hij (zfI hg j i hj hi e).symm
   simp[this]
theorem zeE {G:Gr} (hg:Rt G) (n:Int) (hn:0<n) (k:Int) (hk:k=4∨k=5∨k=6) (tk:List (List Int)):∀(rest:List Tm) (done:List (List Int)) (xs:List Tok),
  (∀t∈rest,t∈G.ts∧t.lv=n∧t.wy=k-3)→(done++names rest).Nodup→xs.map Tok.t=rest.map Tm.nm →
  declN k ⟨bS (fun t=>decide (t.lv<n)||decide (t.nm∈done)) G.ts,tk,none,n⟩ xs=.ok ⟨bS (fun t=>decide (t.lv<n)||decide (t.nm∈done++names rest)) G.ts,tk,none,n⟩
 | [],done,xs,_,_,hx=>by
  obtain rfl:xs=[]:=by simpa using hx
  rw[declN,show names []=[] from rfl,List.append_nil]
 | t::rest,done,xs,hr,hnd,hx=>by
  rw[List.map_cons]at hx
  obtain⟨x,xs,rfl,hxt,hx2⟩:=List.map_eq_cons_iff.1 hx
  obtain⟨hm,hlv,hwy⟩:=hr t (by simp)
  obtain⟨i,hi,hti⟩:=List.getElem_of_mem hm
  have hf:find (names G.ts) x.t=(i:Int):=by rw[hxt,←hti];exact hg.td i hi
  have hnames:names (t::rest)=t.nm::names rest:=rfl
  rw[hnames]at hnd
  have hnd1:t.nm ∉ done:=fun q=>(List.nodup_append.1 hnd).2.2 t.nm q t.nm (by simp) rfl
  have hcell:((bS (fun t=>decide (t.lv<n)||decide (t.nm∈done)) G.ts).map Tm.lv).getD i 0=0:=by
   rw[Sh.getD_at _ _ _ (by simpa[bS] using hi),List.getElem_map]
   unfold bS
   rw[List.getElem_map,hti,if_neg]
   ·rfl
   ·simp[hlv,hnd1]
  rw[declN,decl1,if_neg (by omega),if_neg (by omega)]
  simp only
  rw[zbH,hf,if_neg (by rw[show((i:Int)).toNat=i from rfl,hcell];omega)]
  rw[zee (by rw[zbH,hf];omega)]
  simp only[R.bind_ok]
  rw[zbH,hf,show((i:Int)).toNat=i from rfl]
  rw[zhD hg _ (fun t=>decide (t.lv<n)||decide (t.nm∈done++[G.ts[i].nm])) i hi n (k-3) (by rw[hti,hlv]) (by rw[hti,hwy]) (fun s _=>by simp[Bool.or_assoc])]
  rw[hti,hnames,show done++t.nm::names rest=(done++[t.nm])++names rest by simp]
  exact zeE hg n hn k hk tk rest (done++[t.nm]) xs (fun s hs=>hr s (by simp[hs])) (by simpa using hnd) hx2
theorem ze4 {G:Gr} (hg:Rt G):(names G.ts).Nodup:=by
 unfold List.Nodup
 rw[List.pairwise_iff_getElem]
 intro i j hi hj hij h
 simp only[names,List.length_map]at hi hj
 have:i=j:=zfI hg i j hi hj (by simpa[names] using h)
 omega
theorem ze2 {G:Gr} (hg:Rt G) (n:Int):(names (Sh.onLev G.ts n)).Nodup :=
 List.Nodup.sublist (List.Sublist.map _ List.filter_sublist) (ze4 hg)
theorem zfF (p q:Tm→Bool) (ts:List Tm) (h:∀t∈ts,p t=q t):bS p ts=bS q ts:=by
 unfold bS
 exact List.map_congr_left fun t ht=>by rw[h t ht]
theorem zeD {G:Gr} (hg:Rt G) (tk:List (List Int)) (ds2:List Y.Dcl):∀(m n:Nat) (ds1:List Y.Dcl),n+m=(Sh.top G.ts).toNat →
  ds1.map Sh.dd=((List.range m).map fun i=>Sh.dLev G.ts ((n+i+1:Nat):Int)).map Prod.fst →
  decls ⟨bS (fun t=>decide (t.lv<(n+1:Nat))) G.ts,tk,none,n⟩ (ds1++ds2)=decls ⟨G.ts,tk,none,(Sh.top G.ts).toNat⟩ ds2
 | 0,n,ds1,hn,hd=>by
  obtain rfl:ds1=[]:=by simpa using hd
  have:bS (fun t=>decide (t.lv<(n+1:Nat))) G.ts=G.ts:=by
   rw[zfF _ (fun _=>true)]
   ·unfold bS;simp
   ·intro t ht
    have h1:=Sh.top_ge G.ts t ht
    have h2:=Sh.top_nn G.ts (fun t ht=>(hg.tl t ht).1)
    simp
    omega
  rw[this,List.nil_append,show(n:Nat)=(Sh.top G.ts).toNat by omega]
 | m+1,n,ds1,hn,hd=>by
  rw[List.range_succ_eq_map,List.map_cons,List.map_cons]at hd
  obtain⟨d,ds1,rfl,h1,h2⟩:=List.map_eq_cons_iff.1 hd
  obtain⟨t,r,e,hw,hall⟩:=Sh.level_some hg n (by omega)
  have hk:d.k=t.wy+3:=by
   have:=congrArg Prod.fst h1
   simp only[Sh.dLev,Nat.add_zero,e]at this
   exact this
  have hns:d.ns.map Tok.t=(Sh.onLev G.ts ((n+1:Nat):Int)).map Tm.nm:=congrArg Prod.snd h1
  have hmem:∀s∈Sh.onLev G.ts ((n+1:Nat):Int),s∈G.ts∧s.lv=((n+1:Nat):Int)∧s.wy=d.k-3:=by
   intro s hs
   obtain⟨q1,q2⟩:=List.mem_filter.1 hs
   have q2:s.lv=((n+1:Nat):Int):=by simpa using q2
   exact⟨q1,q2,by rw[hall s q1 q2];omega⟩
  have hup:up d.k (⟨bS (fun t=>decide (t.lv<(n+1:Nat))) G.ts,tk,none,(n:Int)⟩:S1)=⟨bS (fun t=>decide (t.lv<(n+1:Nat))||decide (t.nm∈([]:List (List Int)))) G.ts,tk,none,((n+1:Nat):Int)⟩:=by
   unfold up
   rw[if_neg (by omega)]
   simp
  rw[List.cons_append,decls,hup,zeE hg _ (by omega) d.k (by omega) tk _ [] d.ns hmem (by simpa using ze2 hg _) hns]
  simp only[R.bind_ok]
  have hp:bS (fun t=>decide (t.lv<(n+1:Nat))||decide (t.nm∈[]++names (Sh.onLev G.ts ((n+1:Nat):Int)))) G.ts=bS (fun t=>decide (t.lv<(n+1+1:Nat))) G.ts:=by
   apply zfF
   intro s hs
   by_cases hl:s.lv<(n+1:Nat)
   ·have:s.lv<(n+1+1:Nat):=by omega
    simp only[hl,this,decide_true,Bool.true_or]
   ·by_cases hl2:s.lv=((n+1:Nat):Int)
    ·have h3:s.nm∈names (Sh.onLev G.ts ((n+1:Nat):Int)):=List.mem_map_of_mem (List.mem_filter.2 ⟨hs,by simpa using hl2⟩)
     have:s.lv<(n+1+1:Nat):=by omega
     simp only[List.nil_append,h3,this,decide_true,Bool.or_true]
    ·have h3:s.nm ∉ names (Sh.onLev G.ts ((n+1:Nat):Int)):=by
      intro q
      obtain⟨s',q1,q2⟩:=List.mem_map.1 q
      have:=zk3 hg (hmem s' q1).1 hs q2
      subst this
      exact hl2 (hmem s' q1).2.1
     have:¬s.lv<(n+1+1:Nat):=by omega
     simp only[List.nil_append,hl,h3,this,decide_false,Bool.or_false]
  rw[hp]
  refine zeD hg tk ds2 m (n+1) ds1 (by omega) ?_
  rw[h2,List.map_map,List.map_map,List.map_map]
  refine List.map_congr_left fun i _=>?_
  simp only[Function.comp]
  rw[show n+(i+1)+1=n+1+i+1 by omega]
theorem zik {G:Gr} (hg:Rt G) (ds:List Y.Dcl) (hd:ds.map Sh.dd=(Sh.dAll G).map Prod.fst) :
  ∃x:Tok,decls ⟨[],[],none,0⟩ ds=.ok ⟨G.ts,names G.ts,some x,(Sh.top G.ts).toNat⟩∧x.t=G.ns.getD G.st.toNat []:=by
 unfold Sh.dAll at hd
 rw[List.map_append,List.map_append]at hd
 obtain⟨d12,d3,rfl,h12,h3⟩:=List.map_eq_append_iff.1 hd
 obtain⟨d1,d2,rfl,h1,h2⟩:=List.map_eq_append_iff.1 h12
 obtain⟨z,d4,rfl,hz,h4⟩:=List.map_eq_cons_iff.1 h3
 obtain rfl:d4=[]:=by simpa using h4
 have hk:z.k=7:=congrArg Prod.fst hz
 have hn:z.ns.map Tok.t=[G.ns.getD G.st.toNat []]:=congrArg Prod.snd hz
 obtain⟨x,l,hx,hxt,hl⟩:=List.map_eq_cons_iff.1 hn
 obtain rfl:l=[]:=by simpa using hl
 refine⟨x,?_,hxt⟩
 rw[List.append_assoc]
 have e1:=zeC hg G.ts [] d1 (d2++[z]) rfl (by rw[h1,List.map_map];rfl)
 rw[show names []=[] from rfl,List.map_nil]at e1
 rw[e1]
 have hp:G.ts.map zfZ=bS (fun t=>decide (t.lv<(0+1:Nat))) G.ts:=by
  unfold bS
  refine List.map_congr_left fun t ht=>?_
  have htl:=hg.tl t ht
  by_cases h0:t.lv=0
  ·rw[if_pos (by simp[h0])]
   have hw0:t.wy=0:=htl.2.2.2.2.1 h0
   unfold zfZ
   rw[←h0]
   conv=>lhs;rw[h0]
   obtain⟨a,b,c⟩:=t
   simp only at h0 hw0
   rw[h0,hw0]
  ·rw[if_neg (by simp;omega)]
 rw[hp]
 have e2:=zeD hg (names G.ts) [z] (Sh.top G.ts).toNat 0 d2 (by omega) (by rw[h2];unfold Sh.dLevs;simp)
 rw[show(((0:Nat):Int))=0 from rfl]at e2
 rw[e2,decls,hx,hk,declN,decl1,if_pos rfl]
 have hup:up 7 (⟨G.ts,names G.ts,none,((Sh.top G.ts).toNat:Int)⟩:S1)=⟨G.ts,names G.ts,none,((Sh.top G.ts).toNat:Int)⟩:=by unfold up;rw[if_pos (.inr rfl)]
 rw[hup]
 simp only[Option.isSome_none]
 rw[if_neg (by simp)]
 simp only[R.bind_ok]
 rw[declN]
 simp only[R.bind_ok]
 rw[decls]
end Gm
namespace Gm
theorem rules_le (G:Gr):∀(rs:List Rl) (top:Int),rules G rs top=true→top≤G.ns.length-1∧∀r∈rs,0≤r.l∧r.l<G.ns.length∧rule G r=true
 | [],top,h=>by
  rw[rules,beq_iff_eq]at h
  exact⟨by omega,fun r hr=>by cases hr⟩
 | r::rs,top,h=>by
  rw[rules]at h
  split at h
  ·cases h
  ·rename_i hn
   rw[not_or,not_or]at hn
   have hr:rule G r=true:=by simpa using hn.2.2
   obtain⟨h1,h2⟩:=rules_le G rs _ h
   split at h1
   ·refine⟨by omega,fun x hx=>?_⟩
    rcases List.mem_cons.1 hx with rfl|hx
    ·exact⟨by omega,by omega,hr⟩
    ·exact h2 x hx
   ·refine⟨by omega,fun x hx=>?_⟩
    rcases List.mem_cons.1 hx with rfl|hx
    ·exact⟨by omega,by omega,hr⟩
    ·exact h2 x hx
theorem zih {l:List (List Int)} {s:List Int} {i:Nat} (h:find l s=(i:Int)) (n:Nat):find (l.take n) s=if i<n then(i:Int) else -1:=by
 by_cases hn:i<n
 ·rw[if_pos hn]
  have h1:0≤find (l.take n) s:=by
   refine Classical.byContradiction fun q=>?_
   have q1:s ∉ l.take n:=find_none.1 (by omega)
   obtain⟨k,e,hk,hs⟩:=find_some (l:=l) (s:=s) (by omega)
   have:k=i:=by omega
   subst this
   exact q1 (by rw[←hs];exact List.mem_take_iff_getElem.2 ⟨k,by omega,rfl⟩)
  have h2:=find_app (m:=l.drop n) h1
  rw[List.take_append_drop]at h2
  rw[←h2,h]
 ·rw[if_neg hn]
  apply zey
  intro hm
  obtain⟨k,hk,e⟩:=List.getElem_of_mem hm
  have hk2:k<n∧k<l.length:=by rw[List.length_take]at hk;omega
  have h1:0≤find (l.take n) s:=by
   refine Classical.byContradiction fun q=>?_
   exact find_none.1 (by omega) hm
  have h2:=find_app (m:=l.drop n) h1
  rw[List.take_append_drop,h]at h2
  have h3:=find_lt (l.take n) s
  rw[List.length_take]at h3
  omega
theorem zct {G:Gr} (hg:Rt G):∀(rs:List Rl) (top:Nat) (ps:List Y.Prd),rules G rs ((top:Int)-1)=true→ps.map (fun p=>p.l.t)=rs.map (fun r=>G.ns.getD r.l.toNat []) →
  lefts G.ts (G.ns.take top) ps=.ok G.ns
 | [],top,ps,h,hp=>by
  obtain rfl:ps=[]:=by simpa using hp
  rw[rules,beq_iff_eq]at h
  rw[lefts,List.take_of_length_le (by omega)]
 | r::rs,top,ps,h,hp=>by
  rw[List.map_cons]at hp
  obtain⟨p,ps,rfl,hpt,hp2⟩:=List.map_eq_cons_iff.1 hp
  have hle:=rules_le G (r::rs) _ h
  obtain⟨hl0,hl1,_⟩:=hle.2 r (by simp)
  obtain⟨i,hi⟩:∃i:Nat,r.l=i:=⟨r.l.toNat,by omega⟩
  have hin:i<G.ns.length:=by omega
  rw[hi,show((i:Int)).toNat=i from rfl,Sh.getD_at _ _ _ hin]at hpt
  obtain⟨_,n2,n3⟩:=hg.nn i hin
  rw[rules]at h
  split at h
  ·cases h
  ·rename_i hn
   rw[not_or,not_or]at hn
   rw[lefts,left1,hpt,if_neg (by omega),zih n2 top]
   by_cases hit:i<top
   ·rw[if_pos hit,if_pos (by omega)]
    simp only[R.bind_ok]
    rw[if_neg (by omega)]at h
    exact zct hg rs top ps h hp2
   ·rw[if_neg hit,if_neg (by omega)]
    have hit2:i=top:=by omega
    subst hit2
    rw[if_neg (by rw[List.length_take];have:=hg.n1;omega)]
    simp only[R.bind_ok]
    rw[if_pos (by omega)]at h
    have e:G.ns.take i++[G.ns[i]]=G.ns.take (i+1):=by rw[List.take_succ_eq_append_getElem hin]
    rw[e]
    exact zct hg rs (i+1) ps (by rw[hi]at h;rw[show(((i+1:Nat):Int)-1)=(i:Int) by omega];exact h) hp2
theorem zd1 {G:Gr} (hg:Rt G) (z:Int) (hz:has G z=true) (x:Tok) (hx:x.t=name G z):symR G.ns G.ts x=.ok (G.ts,z):=by
 unfold name at hx
 rw[if_pos hz]at hx
 unfold has at hz
 by_cases h0:0≤z
 ·rw[if_pos h0]at hz hx
  have hz:z<G.ts.length:=by simpa using hz
  obtain⟨i,hi⟩:∃i:Nat,z=i:=⟨z.toNat,by omega⟩
  subst hi
  have hit:i<G.ts.length:=by omega
  rw[show((i:Int)).toNat=i from rfl,zaM i hit]at hx
  have hf:=hg.td i hit
  have hno:find G.ns x.t<0:=by
   refine find_none.2 fun hm=>?_
   obtain⟨j,hj,e⟩:=List.getElem_of_mem hm
   have:=(hg.nn j hj).2.2
   rw[e,hx,hf]at this
   omega
  unfold symR
  rw[if_neg (by omega)]
  unfold sym
  rw[hx,hf,if_pos (.inl (by omega)),zee (by rw[hx,hf];omega),hx,hf]
 ·rw[if_neg h0]at hz hx
  have hz:-1-z<G.ns.length:=by simpa using hz
  obtain⟨i,hi⟩:∃i:Nat,-1-z=i:=⟨(-1-z).toNat,by omega⟩
  rw[hi,show((i:Int)).toNat=i from rfl,Sh.getD_at _ _ _ (by omega)]at hx
  unfold symR
  rw[hx,(hg.nn i (by omega)).2.1,if_pos (by omega)]
  rw[show -1-(i:Int)=z by omega]
theorem zg8 {G:Gr} (hg:Rt G) (z:Int) (h0:0≤z) (hz:z<G.ts.length) (x:Tok) (hx:x.t=name G z):symP G.ns G.ts x=.ok (G.ts,z):=by
 have hh:has G z=true:=by unfold has;rw[if_pos h0];simpa using hz
 have h:=zd1 hg z hh x hx
 unfold symR at h
 unfold symP
 by_cases hf:0≤find G.ns x.t
 ·rw[if_pos hf]at h
  injection h with h
  have:=congrArg Prod.snd h
  simp only at this
  omega
 ·rw[if_neg hf]at h ⊢
  exact h
theorem zcX {G:Gr} (hg:Rt G):∀(zs:List Int) (acc:List Int) (p:Int) (xs:List Tok),(∀z∈zs,has G z=true)→acc.length+zs.length≤6→xs.map Tok.t=zs.map (name G) →
  rights G.ns G.ts acc p xs=.ok (G.ts,acc++zs,zs.foldl (fun m z=>if 0≤z then z else m) p)
 | [],acc,p,xs,_,_,hx=>by
  obtain rfl:xs=[]:=by simpa using hx
  rw[rights,List.append_nil]
  rfl
 | z::zs,acc,p,xs,hz,hl,hx=>by
  rw[List.map_cons]at hx
  obtain⟨x,xs,rfl,hxt,hx2⟩:=List.map_eq_cons_iff.1 hx
  rw[rights,if_neg (by simp at hl;omega),zd1 hg z (hz z (by simp)) x hxt]
  simp only[R.bind_ok]
  rw[zcX hg zs (acc++[z]) _ xs (fun y hy=>hz y (by simp[hy])) (by simp at hl ⊢;omega) hx2]
  simp
theorem zhZ (l:List Int) (h:∀z∈l,z<0):Sh.last l = -1:=by
 have key:∀(l:List Int) (m:Int),(∀z∈l,z<0)→l.foldl (fun m z=>if 0≤z then z else m) m=m:=by
  intro l
  induction l with
  | nil=>intro m h;rfl
  | cons z r ih=>intro m h;rw[List.foldl_cons,if_neg (by have:=h z (by simp);omega)];exact ih m (fun y hy=>h y (by simp[hy]))
 exact key l (-1) h
theorem rule_parts {G:Gr} {r:Rl} (h:rule G r=true):r.r.length≤6∧-1≤r.p∧r.p<G.ts.length∧(∀z∈r.r,has G z=true)∧(r.p≠Sh.last r.r→0≤r.p):=by
 unfold rule at h
 simp only[Bool.and_eq_true,decide_eq_true_eq,List.all_eq_true]at h
 obtain⟨⟨⟨h1,h2⟩,h3⟩,h4⟩:=h
 refine⟨h1,h2,h3,fun z hz=>(h4 z hz).1,fun hne=>?_⟩
 refine Classical.byContradiction fun q=>?_
 have hp:r.p = -1:=by omega
 refine hne ?_
 rw[hp,zhZ]
 intro z hz
 have:=(h4 z hz).2
 simp[hp]at this
 omega
theorem zef {G:Gr} (hg:Rt G):∀(rest done:List Rl) (ps:List Y.Prd),G.rs=done++rest→ps.map Sh.pd=rest.map (Sh.pOf G)→prods G.ns G.ts done ps=.ok (G.ts,G.rs)
 | [],done,ps,h,hp=>by
  obtain rfl:ps=[]:=by simpa using hp
  rw[prods,h,List.append_nil]
 | r::rest,done,ps,h,hp=>by
  rw[List.map_cons]at hp
  obtain⟨p,ps,rfl,hpt,hp2⟩:=List.map_eq_cons_iff.1 hp
  have hm:r∈G.rs:=by rw[h];simp
  obtain⟨l0,l1,hr⟩:=(rules_le G G.rs _ hg.rr).2 r hm
  obtain⟨a1,a2,a3,a4,a5⟩:=rule_parts hr
  have hlen:done.length<G.rs.length:=by rw[h];simp
  have hpl:p.l.t=G.ns.getD r.l.toNat []:=congrArg Sh.PD.l hpt
  have hpr:p.r.map Tok.t=r.r.map (name G):=congrArg Sh.PD.r hpt
  have hpp:p.p.map Tok.t=if r.p=Sh.last r.r then none else some (name G r.p):=congrArg Sh.PD.p hpt
  have hfl:find G.ns p.l.t=r.l:=by
   obtain⟨i,hi⟩:∃i:Nat,r.l=i:=⟨r.l.toNat,by omega⟩
   rw[hpl,hi,show((i:Int)).toNat=i from rfl,Sh.getD_at _ _ _ (by omega)]
   exact(hg.nn i (by omega)).2.1
  rw[prods,prod1,if_neg (by have:=hg.r1;omega),zcX hg r.r [] (-1) p.r a4 (by simpa using a1) hpr]
  simp only[R.bind_ok,List.nil_append]
  have hnext:=zef hg rest (done++[r]) ps (by rw[h];simp) hp2
  by_cases hl:r.p=Sh.last r.r
  ·rw[if_pos hl]at hpp
   have:p.p=none:=by simpa using hpp
   rw[this]
   simp only[R.bind_ok]
   rw[hfl,show r.r.foldl (fun m z=>if 0≤z then z else m) (-1)=r.p from hl.symm]
   exact hnext
  ·rw[if_neg hl]at hpp
   obtain⟨x,hx,hxt⟩:=Option.map_eq_some_iff.1 hpp
   rw[hx]
   simp only
   rw[zg8 hg r.p (a5 hl) a3 x hxt]
   simp only[R.bind_ok]
   rw[hfl]
   exact hnext
theorem zit {G:Gr} (hg:Rt G) (ds:List Y.Dcl) (ps:List Y.Prd) (hd:ds.map Sh.dd=(Sh.dAll G).map Prod.fst) (hp:ps.map Sh.pd=G.rs.map (Sh.pOf G)):build ds ps=.ok G:=by
 obtain⟨x,h1,hx⟩:=zik hg ds hd
 unfold build
 rw[h1]
 simp only[R.bind_ok]
 have h2:=zct hg G.rs 0 ps (by simpa using hg.rr) (by
  have:=congrArg (List.map Sh.PD.l) hp
  rw[List.map_map,List.map_map]at this
  exact this)
 rw[List.take_zero]at h2
 rw[h2]
 simp only[R.bind_ok]
 rw[zef hg G.rs [] ps rfl hp]
 simp only[R.bind_ok]
 have hs:=hg.s0
 obtain⟨i,hi⟩:∃i:Nat,G.st=i:=⟨G.st.toNat,by omega⟩
 have hf:find G.ns x.t=G.st:=by
  rw[hx,hi,show((i:Int)).toNat=i from rfl,Sh.getD_at _ _ _ (by omega)]
  exact(hg.nn i (by omega)).2.1
 rw[start,hf,if_pos (by omega)]
 simp only[R.bind_ok]
end Gm
namespace Sh
open Gm Y
theorem zjV {G:Gr} (hg:Rt G):∀p∈dAll G,DW p.1 p.2:=by
 intro p hp
 unfold dAll at hp
 rw[List.mem_append,List.mem_append]at hp
 have hR:∀t∈G.ts,isR t.nm:=fun t ht=>by
  obtain⟨i,hi,rfl⟩:=List.getElem_of_mem ht
  exact(zbV (hg.tn i hi)).2
 rcases hp with(hp|hp)|hp
 ·obtain⟨t,ht,rfl⟩:=List.mem_map.1 hp
  exact⟨wToken,t.nm,[],rfl,zfp.2,rfl,.inr ⟨.inl rfl,fun v hv=>by rw[List.mem_singleton.1 hv];exact hR t ht⟩⟩
 ·unfold dLevs at hp
  obtain⟨i,hi,rfl⟩:=List.mem_map.1 hp
  obtain⟨t,r,e,hw,hall⟩:=level_some hg i (by simpa using hi)
  unfold dLev level
  rw[e]
  refine⟨wayW t.wy,t.nm,r.map Tm.nm,rfl,?_,rfl,.inr ⟨?_,fun v hv=>?_⟩⟩
  ·rw[(zgZ hw).2]
  ·simp only;omega
  ·obtain⟨s,hs,rfl⟩:=List.mem_map.1 (show v∈(t::r).map Tm.nm from hv)
   have:s∈onLev G.ts ((i+1:Nat):Int):=by rw[e];exact hs
   exact hR s (List.mem_filter.1 this).1
 ·rw[List.mem_singleton.1 hp]
  have hs:=hg.s0
  refine⟨wStart,G.ns.getD G.st.toNat [],[],rfl,zfq.2,rfl,.inl ⟨rfl,rfl,?_⟩⟩
  rw[getD_at _ _ _ (by omega)]
  exact(zbm (hg.nn _ (by omega)).1).2
theorem zb2 {G:Gr} (hg:Rt G) (z:Int) (hz:has G z=true):isR (name G z)∧Wd (name G z):=by
 unfold name
 rw[if_pos hz]
 unfold has at hz
 by_cases h0:0≤z
 ·rw[if_pos h0]at hz ⊢
  have hz:z<G.ts.length:=by simpa using hz
  rw[zaM _ (by omega)]
  have:=zbV (hg.tn z.toNat (by omega))
  exact⟨this.2,this.1⟩
 ·rw[if_neg h0]at hz ⊢
  have hz:-1-z<G.ns.length:=by simpa using hz
  rw[getD_at _ _ _ (by omega)]
  have:=zbm (hg.nn (-1-z).toNat (by omega)).1
  exact⟨.inl this.2,this.1⟩
theorem zjN {G:Gr} (hg:Rt G):∀p∈G.rs.map (pOf G),p.Ok:=by
 intro p hp
 obtain⟨r,hr,rfl⟩:=List.mem_map.1 hp
 obtain⟨l0,l1,hru⟩:=(rules_le G G.rs _ hg.rr).2 r hr
 obtain⟨a1,a2,a3,a4,a5⟩:=rule_parts hru
 refine⟨?_,fun w hw=>?_,fun w hw=>?_⟩
 ·show wkind (G.ns.getD r.l.toNat [])=1
  rw[getD_at _ _ _ (by omega)]
  exact(zbm (hg.nn _ (by omega)).1).2
 ·obtain⟨z,hz,rfl⟩:=List.mem_map.1 (show w∈r.r.map (name G) from hw)
  exact(zb2 hg z (a4 z hz)).1
 ·have hw:(if r.p=last r.r then none else some (name G r.p))=some w:=hw
  split at hw
  ·cases hw
  ·rename_i hne
   injection hw with hw
   subst hw
   exact(zb2 hg r.p (by unfold has;rw[if_pos (a5 hne)];simpa using a3)).1
theorem zfM {G:Gr} (hg:Rt G):∀l∈lines G,l≠[]∧∀w∈l,Wd w:=by
 intro l hl
 unfold lines at hl
 simp only[List.mem_append,List.mem_singleton]at hl
 rcases hl with(((hl|hl)|hl)|hl)|hl
 ·obtain⟨t,ht,rfl⟩:=List.mem_map.1 hl
  obtain⟨i,hi,rfl⟩:=List.getElem_of_mem ht
  refine⟨by simp,fun w hw=>?_⟩
  rcases List.mem_cons.1 hw with rfl|hw
  ·exact zfp.1
  ·rw[List.mem_singleton.1 hw];exact(zbV (hg.tn i hi)).1
 ·unfold levels at hl
  obtain⟨i,hi,rfl⟩:=List.mem_map.1 hl
  obtain⟨t,r,e,hw,hall⟩:=level_some hg i (by simpa using hi)
  unfold level
  rw[e]
  refine⟨by simp,fun w hw'=>?_⟩
  rcases List.mem_cons.1 hw' with rfl|hw'
  ·exact(zgZ hw).1
  ·obtain⟨s,hs,rfl⟩:=List.mem_map.1 hw'
   have:s∈onLev G.ts ((i+1:Nat):Int):=by rw[e];exact hs
   obtain⟨j,hj,rfl⟩:=List.getElem_of_mem (List.mem_filter.1 this).1
   exact(zbV (hg.tn j hj)).1
 ·subst hl
  have hs:=hg.s0
  refine⟨by simp,fun w hw=>?_⟩
  rcases List.mem_cons.1 hw with rfl|hw
  ·exact zfq.1
  ·rw[List.mem_singleton.1 hw,getD_at _ _ _ (by omega)]
   exact(zbm (hg.nn _ (by omega)).1).1
 ·subst hl
  exact⟨by simp,fun w hw=>by rw[List.mem_singleton.1 hw];exact zb8.1⟩
 ·obtain⟨r,hr,rfl⟩:=List.mem_map.1 hl
  obtain⟨l0,l1,hru⟩:=(rules_le G G.rs _ hg.rr).2 r hr
  obtain⟨a1,a2,a3,a4,a5⟩:=rule_parts hru
  refine⟨by simp[rule],fun w hw=>?_⟩
  unfold rule at hw
  simp only[List.mem_cons,List.mem_append]at hw
  rcases hw with rfl|rfl|(hw|hw)|hw
  ·rw[getD_at _ _ _ (by omega)]
   exact(zbm (hg.nn _ (by omega)).1).1
  ·exact zdl.1
  ·obtain⟨z,hz,rfl⟩:=List.mem_map.1 hw
   exact(zb2 hg z (a4 z hz)).2
  ·split at hw
   ·cases hw
   ·rename_i hne
    simp only[List.mem_cons,List.not_mem_nil,or_false]at hw
    rcases hw with rfl|rfl
    ·exact zb7.1
    ·exact(zb2 hg r.p (by unfold has;rw[if_pos (a5 hne)];simpa using a3)).2
  ·simp only[List.not_mem_nil,or_false]at hw
   rw[hw];exact za2.1
theorem zkA {d:DD} {ws:List (List Int)} (h:DW d ws):ws.filter (fun w=>wkind w==9)=[]:=by
 obtain⟨c,n,r,rfl,hk,e,hr⟩:=h.w
 rw[List.filter_eq_nil_iff]
 intro w hw
 have hne:wkind w≠9:=by
  rcases List.mem_cons.1 hw with rfl|hw
  ·rw[hk];omega
  ·rcases hr with⟨_,rfl,h1⟩|⟨_,h1⟩
   ·rw[List.mem_singleton.1 hw,h1];decide
   ·rcases h1 w hw with e|e <;> rw[e] <;> decide
 simpa using hne
theorem zkn {p:PD} (h:p.Ok):p.words.filter (fun w=>wkind w==9)=[]:=by
 rw[List.filter_eq_nil_iff]
 intro w hw
 unfold PD.words at hw
 have hne:wkind w≠9:=by
  simp only[List.mem_cons,List.mem_append,List.not_mem_nil,or_false]at hw
  rcases hw with rfl|rfl|hw|hw|rfl
  ·rw[h.l];decide
  ·rw[zdl.2];decide
  ·rcases h.r w hw with e|e <;> rw[e] <;> decide
  ·rcases hp:p.p with _|q
   ·rw[hp]at hw;cases hw
   ·rw[hp]at hw
    simp only[List.mem_cons,List.not_mem_nil,or_false]at hw
    rcases hw with rfl|rfl
    ·rw[zb7.2];decide
    ·rcases h.p w hp with e|e <;> rw[e] <;> decide
  ·rw[za2.2];decide
 simpa using hne
theorem zcz {α β:Type} (p:β→Bool) (f:α→List β) (l:List α) (h:∀a∈l,(f a).filter p=[]):(l.flatMap f).filter p=[]:=by
 induction l with
 | nil=>rfl
 | cons a r ih=>rw[List.flatMap_cons,List.filter_append,h a (by simp),ih (fun b hb=>h b (by simp[hb]))];rfl
theorem text_back {G:Gr} (h:right G=true):∃xs s,zdV (text G)=.ok xs∧Y.source xs=.ok s []∧Gm.build s.1 s.2=.ok G:=by
 have hg:=rt_of h
 obtain⟨xs,hk,ht⟩:=zg1 (lines G) (zfM hg) (by
  rw[zc8,List.filter_append,zcz _ _ _ (fun p hp=>zkA (zjV hg p hp)),List.filter_cons,if_pos (by rw[zb8.2];decide),zcz _ _ _ (fun p hp=>zkn (zjN hg p hp))]
  decide)
 rw[zc8]at hk
 obtain⟨ds,ps,h1,h2,h3⟩:=zd3 (dAll G) (G.rs.map (pOf G)) xs (zjV hg) (zjN hg) (by have h1:=hg.r1;intro e;have h2:=congrArg List.length e;rw[List.length_map,List.length_nil]at h2;omega) hk
 exact⟨xs,(ds,ps),ht,h1,zit hg ds ps h2 h3⟩
end Sh
end Go.Proofs.YtkfelkpilaipnaaGreatDoor
namespace Go.Proofs.YtkfelkpilaipnaaGreatDoor
set_option maxRecDepth 100000
set_option maxHeartbeats 40000000
open Go.RowKit
theorem zgf (v:Value) (G:Gm.Gr) (B:Nat) (z:Int) (hz:Gm.In z) (w:World) (hg:bC w B v G) (hB:B≤w.heap.size) :
  Calls Tryz.prog 46 #[v,.int .i64 z] w fun e w'=>e=.returned (.string (K.str (Gm.name G z)))∧Below w.heap.size w w':=by
 have HB:=aA (fun o=>(Below.refl w.heap.size w).alloc (Nat.le_refl _) o)
 have HH:=aA (fun(x:World) (h:Below w.heap.size w x)=>zea v G B z hz x (hg.below h hB))
 obtain⟨AT,cT,AN,cN,AR,cR,rfl,⟨hlT,hmT⟩,⟨hlN,hmN⟩,_,ht,hn,_⟩:=hg
 have HT:=aA ht
 have HN:=aA hn
 clear ht hn
 by_cases hh:Gm.has G z=true
 ·obtain⟨hp,hq⟩:=Gm.has_lt hh
  unfold Gm.name
  rw[if_pos hh]
  by_cases h0:0≤z
  ·obtain⟨k,rfl,hk⟩:=hp h0
   obtain⟨g,o,rfl,hgb,hc⟩:=HT.out (by omega)
   have k0:=(hc k hk).1
   have hgs:g<w.heap.size:=by omega
   have HE:Hid ((Gm.names G.ts).getD (k:Int).toNat []=G.ts[k].nm):=aA (by simp[Gm.names,hk])
   rw[if_pos h0,HE.out]
   rw[hh]at HH
   generalize G.ts[k].nm=nm at *
   clear hc hp hq hz hh
   go_enter Tryz.func46,Tryz.ntmps46
   go_wp2_with fail
   refine(HH.out _ (HB.out _)).mono ?_;rintro _ w2 ⟨rfl,hb⟩
   have k1:w2.cell? ⟨g,o+k*3,none⟩=some (.string (K.str nm)):=(((HB.out _).trans (hb.mono (by simp))).cell (p:=⟨g,o+k*3,none⟩) hgs).trans k0
   have HB2:=aA ((HB.out _).trans (hb.mono (by simp)))
   have hbb:=hb.block w.heap.size (by simp)
   rw[heap_alloc_new]at hbb
   have hz2:w.heap.size<w2.heap.size:=(Array.getElem?_eq_some_iff.1 hbb).1
   have c0:=cell_of_row w2 _ 0 _ _ _ hbb
   clear hb hbb
   go_wp2
   go_ret
   exact⟨rfl,HB2.out⟩
  ·obtain⟨k,hkk,hk⟩:=hq h0
   obtain⟨g,o,rfl,hgb,hc⟩:=HN.out (by omega)
   have k0:=hc k hk
   have hgs:g<w.heap.size:=by omega
   have HE:Hid (G.ns.getD (-1-z).toNat []=G.ns[k]):=aA (by rw[hkk];simp[hk])
   have hs:IntKind.i64.wrap (-1-z)=(k:Int):=by rw[←hkk];exact IntWalk.i64_in _ (by have:=hz.1;have:=hz.2;omega)
   rw[if_neg h0,HE.out]
   rw[hh]at HH
   generalize G.ns[k]=nm at *
   have h0':decide (0≤z)=false:=decide_eq_false h0
   clear hc hp hq hz hh hkk
   go_enter Tryz.func46,Tryz.ntmps46
   go_wp2_with fail
   refine(HH.out _ (HB.out _)).mono ?_;rintro _ w2 ⟨rfl,hb⟩
   have k1:w2.cell? ⟨g,o+k,none⟩=some (.string (K.str nm)):=(((HB.out _).trans (hb.mono (by simp))).cell (p:=⟨g,o+k,none⟩) hgs).trans k0
   have HB2:=aA ((HB.out _).trans (hb.mono (by simp)))
   have hbb:=hb.block w.heap.size (by simp)
   rw[heap_alloc_new]at hbb
   have hz2:w.heap.size<w2.heap.size:=(Array.getElem?_eq_some_iff.1 hbb).1
   have c0:=cell_of_row w2 _ 1 _ _ _ hbb
   clear hb hbb
   go_wp2
   go_ret
   exact⟨rfl,HB2.out⟩
 ·have hh:Gm.has G z=false:=by simpa using hh
  unfold Gm.name
  rw[hh]at HH ⊢
  clear hz hh
  go_enter Tryz.func46,Tryz.ntmps46
  go_wp2_with fail
  refine(HH.out _ (HB.out _)).mono ?_;rintro _ w2 ⟨rfl,hb⟩
  have HB2:=aA ((HB.out _).trans (hb.mono (by simp)))
  clear hb
  go_wp2
  go_ret
  exact⟨rfl,HB2.out⟩
def zlp (rs:List Gm.Rl) (k:Nat):Prop:=∀i (h:i<rs.length),i<k→rs[i].r.length≤20
theorem zde (v:Value) (G:Gm.Gr) (B:Nat) (w:World) (hg:bC w B v G) (hB:B≤w.heap.size) :
  Calls Tryz.prog 7 #[v] w fun e w'=>e=.returned (.bool (Gm.great G))∧Below w.heap.size w w':=by
 have HB:=aA (fun o=>(Below.refl w.heap.size w).alloc (Nat.le_refl _) o)
 obtain⟨AT,cT,AN,cN,AR,cR,rfl,⟨hlT,hmT⟩,⟨hlN,hmN⟩,⟨hlR,hmR⟩,_,_,hr⟩:=hg
 have HR:=aA hr
 clear hr
 unfold Gm.great
 by_cases h1:40<G.ts.length
 ·rw[decide_eq_true h1]
  go_enter Tryz.func7,Tryz.ntmps7
  go_wp2
  go_ret
  exact⟨rfl,HB.out _⟩
 by_cases h2:40<G.ns.length
 ·rw[decide_eq_true h2]
  simp only[Bool.or_true,Bool.true_or]
  go_enter Tryz.func7,Tryz.ntmps7
  go_wp2
  go_ret
  exact⟨rfl,HB.out _⟩
 by_cases h3:60<G.rs.length
 ·rw[decide_eq_true h3]
  simp only[Bool.or_true,Bool.true_or]
  go_enter Tryz.func7,Tryz.ntmps7
  go_wp2
  go_ret
  exact⟨rfl,HB.out _⟩
 rw[decide_eq_false h1,decide_eq_false h2,decide_eq_false h3]
 simp only[Bool.false_or]
 have hlen:G.rs.length≤60:=by omega
 go_enter Tryz.func7,Tryz.ntmps7
 go_wp2
 go_loop [3] (fun vi=>∃(k:Nat),k≤G.rs.length∧vi=.int .i64 k∧zlp G.rs k) (fun vi=>G.rs.length-(intOf vi).toNat)
 case atStart=>exact⟨0,Nat.zero_le _,rfl,fun _ _ h=>by omega⟩
 case round =>
  obtain⟨k,hk,rfl,hn⟩:=hrel
  have HN:=aA hn
  clear hn
  by_cases hlt:k<G.rs.length
  ·obtain⟨g,o,rfl,hgb,hc⟩:=HR.out (by omega)
   obtain⟨_,⟨A',c',k1,k2,k3,_⟩,_⟩:=hc k hlt
   have hgs:g<w.heap.size:=by omega
   by_cases hx:20<G.rs[k].r.length
   ·have HE:Hid ((G.rs.any fun r=>decide (20<r.r.length))=true):=aA (List.any_eq_true.2 ⟨_,List.getElem_mem hlt,by simpa using hx⟩)
    generalize G.rs[k].r.length=m at *
    clear hc
    go_wp2
    go_ret
    exact⟨aG HE.out.symm,HB.out _⟩
   ·have HE:Hid (zlp G.rs (k+1)):=aA (fun i hi hik=>by
     rcases Nat.lt_or_ge i k with q|q
     ·exact HN.out i hi q
     ·obtain rfl:i=k:=by omega
      omega)
    generalize G.rs[k].r.length=m at *
    clear hc
    go_wp2
    go_round
    case rel=>exact⟨k+1,by omega,by go_num,HE.out⟩
    case measure=>simp[intOf];omega
  ·obtain rfl:k=G.rs.length:=by omega
   have HE:Hid ((G.rs.any fun r=>decide (20<r.r.length))=false):=aA (by
    rw[List.any_eq_false]
    intro x hx
    obtain⟨i,hi,rfl⟩:=List.getElem_of_mem hx
    have:=HN.out i hi hi
    simp;omega)
   go_wp2
   go_ret
   exact⟨aG HE.out.symm,HB.out _⟩
end Go.Proofs.YtkfelkpilaipnaaGreatDoor
