/- Part of the proofs over this program: WalkTells14. -/
import Derived.Test.YtcgclkndkahgaaaGreatKK
namespace Go.Proofs.YtcgclkndkahgaaaGreat
set_option maxRecDepth 100000
set_option maxHeartbeats 40000000
open Go.RowKit
def zes (s:List Int) (w:World) (e:Ending) (w':World):Prop:=∃A c,e=.returned (.slice A s.length c)∧RdI w' w'.heap.size A s∧Below w.heap.size w w'
theorem zfD.rd {b:Bool} {s:List Int} {w w':World} {e:Ending} (h:zfD b s w e w'):zes (if b=true then s else []) w e w':=by
 cases b
 ·obtain⟨rfl,hb⟩:=h.2 rfl
  exact⟨none,0,rfl,RdI.nil _ _ _,hb⟩
 ·obtain⟨g,rfl,_,hu,hb⟩:=h.1 rfl
  exact⟨some ⟨g,0,none⟩,s.length,rfl,hu.rd0 hu.lt,hb⟩
theorem zg2 {s:List Int} {w w':World} {e:Ending} (h:zgp s w e w'):zes s w e w':=by
 obtain⟨v,rfl,ho,hb⟩:=h
 obtain⟨A,c,rfl,_,_,hr⟩:=ho.form
 exact⟨A,c,rfl,hr,hb⟩
theorem zbU (v:Value) (G:Gm.Gr) (w:World) (hg:aN w w.heap.size v G) (hf:Gm.Fit G) :
  Calls Tryz.prog 3 #[v] w fun e w'=>e=.returned (.bool true)∧Below w.heap.size w w':=by
 have HGG:=aA (fun(x:World) (h:Below w.heap.size w x)=>hg.below h (Nat.le_refl _))
 have HAL:=aA (fun(x:World)=>zaL x)
 have TG:=aA (fun(x:World) (h:Below w.heap.size w x)=>za7 v G w.heap.size x (HGG.out x h) h.size)
 obtain⟨sN,hN⟩:∃s,s=(if Gm.right G=true then Gm.htI G else []):=⟨_,rfl⟩
 obtain⟨sP,hP⟩:∃s,s=Gm.bestG G:=⟨_,rfl⟩
 have HN1:=aA (fun(x:World) (h:Below w.heap.size w x)=>(show Calls _ _ _ _ (zes sN x) from(zaQ v G w.heap.size x (HGG.out x h) hf h.size).mono fun e w' k=>by rw[hN];exact k.rd))
 have HN2:=aA (fun(x:World) (h:Below w.heap.size w x)=>(show Calls _ _ _ _ (zes sN x) from(zaP v G w.heap.size x (HGG.out x h) hf h.size).mono fun e w' k=>by rw[hN];exact k.rd))
 have HP1:=aA (fun(x:World) (h:Below w.heap.size w x)=>(show Calls _ _ _ _ (zes sP x) from(zbj v G w.heap.size x (HGG.out x h) hf h.size).mono fun e w' k=>by rw[hP];exact k.rd))
 have HP2:=aA (fun(x:World) (h:Below w.heap.size w x)=>(show Calls _ _ _ _ (zes sP x) from(zaY v G w.heap.size x (HGG.out x h) hf h.size).mono fun e w' k=>by rw[hP];exact zg2 k))
 have hlens:Gm.great G=false→sN.length≤9223372036854775807∧sP.length≤9223372036854775807:=fun hh=>by
  have h40:G.ns.length≤40:=by
   unfold Gm.great at hh
   simp only[Bool.or_eq_false_iff,decide_eq_false_iff_not]at hh
   omega
  rw[hN,hP]
  unfold Gm.bestG
  refine⟨?_,?_⟩ <;> (split <;> simp[Gm.htI_len,Gm.best_len] <;> omega)
 have HLS:=aA hlens
 obtain⟨A0,c0,A1,c1,A2,c2,rfl,_⟩:=hg
 have HQ0:=aA (One.start w #[.slice A0 G.ts.length c0,.slice A1 G.ns.length c1,.slice A2 G.rs.length c2,.int .i64 G.st])
 have HXC:=aA (fun(x:World) (h:One w #[.slice A0 G.ts.length c0,.slice A1 G.ns.length c1,.slice A2 G.rs.length c2,.int .i64 G.st] x)=>And.intro (h.c 0 _ rfl) (And.intro (h.c 1 _ rfl) (And.intro (h.c 2 _ rfl) (h.c 3 _ rfl))))
 clear hN hP hlens hf
 go_enter Tryz.func3,Tryz.ntmps3
 go_wp2_with fail
 refine(HAL.out _).mono ?_;rintro _ w1 ⟨rfl,hb1⟩
 have HQ1:=aA (HQ0.out.on hb1)
 obtain⟨x0,x1,x2,x3⟩:=HXC.out w1 HQ1.out
 clear hb1
 cases hgr:Gm.great G with
 | true =>
  rw[hgr]at TG
  go_wp2_with fail
  refine(TG.out _ HQ1.out.below).mono ?_;rintro _ w2 ⟨rfl,hb2⟩
  have HQ2:=aA (HQ1.out.on hb2)
  clear hb2
  go_wp2
  go_ret
  exact⟨rfl,HQ2.out.below⟩
 | false =>
  obtain⟨hln,hlp⟩:=HLS.out hgr
  have HLN:=aA hln
  have HLP:=aA hlp
  rw[hgr]at TG
  clear hln hlp
  go_upto_region 5 with fail
  refine(TG.out _ HQ1.out.below).mono ?_;rintro _ w2 ⟨rfl,hb2⟩
  have HQ2:=aA (HQ1.out.on hb2)
  clear x0 x1 x2 x3 hb2 hgr TG
  go_upto_region 5 with fail
  have q0:=fun y:Calm.On w2.heap.size w2=>(HXC.out y.1 (HQ2.out.on y.2)).1
  have q1:=fun y:Calm.On w2.heap.size w2=>(HXC.out y.1 (HQ2.out.on y.2)).2.1
  have q2:=fun y:Calm.On w2.heap.size w2=>(HXC.out y.1 (HQ2.out.on y.2)).2.2.1
  have q3:=fun y:Calm.On w2.heap.size w2=>(HXC.out y.1 (HQ2.out.on y.2)).2.2.2
  have HD2:Hid (Below w2.heap.size w2 w2.drew):=aA (aB (Below.refl _ _) 1)
  refine CalmN.region_tree (fun x=>∃y:Calm.On w2.heap.size w2,x=y.1) (.one [0,2] 1 (.one [] 3 (.one [] 4 (.one [5,6,8] 7 (.one [] 9 (.one [] 10 (.fin [11,12]))))))) (by kernel_rfl) (by kernel_rfl) (fun _ _ d _ _ h=>by cases d <;> exact h) ⟨⟨w2.drew,HD2.out⟩,rfl⟩ ?_
  simp only[CalmN.wpT,CalmN.wpSt,CalmN.pickOps,List.getElem?_toArray,List.getElem?_cons_zero,List.getElem?_cons_succ]
  repeat (go_big_quiet_step (fail))
  refine wpQuiet_nil ?_
  obtain⟨wd,hwd⟩:∃y,y=w2.drew:=⟨_,rfl⟩
  rw[←hwd]at HD2 ⊢
  clear hwd
  have HB0:=aA HD2.out
  intro KK hKK
  rw[if_pos (by rfl)]
  go_wp2_with fail
  refine(HN1.out _ (HQ2.out.on HB0.out).below).mono ?_;rintro _ v1 ⟨Aa1,ca1,rfl,hr1,hb⟩
  have HB1:=aA (HB0.out.trans (hb.mono HB0.out.size))
  have HR1:=aA hr1
  clear hb hr1
  go_wp2_with fail
  refine hKK _ _ ⟨⟨_,HB1.out⟩,rfl⟩ (fun x=>∃y:Calm.On w2.heap.size w2,x=y.1) (fun _ h=>h) ⟨⟨_,HB1.out⟩,rfl⟩ ?_
  refine wpQuiet_nil ?_
  intro KK hKK
  rw[if_pos (by rfl)]
  go_wp2_with fail
  refine(HN2.out _ (HQ2.out.on HB1.out).below).mono ?_;rintro _ v2 ⟨Aa2,ca2,rfl,hr2,hb⟩
  have HB2:=aA (HB1.out.trans (hb.mono HB1.out.size))
  have HBO2:=aA (zai Aa1 Aa2 ca1 ca2 sN.length sN v2 (HR1.out.up hb) hr2 HLN.out rfl)
  clear hb hr2
  go_wp2_with fail
  refine hKK _ _ ⟨⟨_,HB2.out⟩,rfl⟩ (fun x=>∃y:Calm.On w2.heap.size w2,x=y.1) (fun _ h=>h) ⟨⟨_,HB2.out⟩,rfl⟩ ?_
  refine wpQuiet_nil ?_
  intro KK hKK
  rw[if_pos (by rfl)]
  go_wp2_with fail
  refine HBO2.out.mono ?_;rintro _ v3 ⟨rfl,n3,hv3⟩
  have HB3:Hid (Below w2.heap.size w2 v3):=aA (by rw[hv3];exact aB HB2.out _)
  clear hv3 HBO2 HR1
  go_wp2_with fail
  refine hKK _ _ ⟨⟨_,HB3.out⟩,rfl⟩ (fun x=>∃y:Calm.On w2.heap.size w2,x=y.1) (fun _ h=>h) ⟨⟨_,HB3.out⟩,rfl⟩ ?_
  repeat (go_big_quiet_step (fail))
  refine wpQuiet_nil ?_
  intro KK hKK
  rw[if_pos (by rfl)]
  go_wp2_with fail
  refine(HP1.out _ (HQ2.out.on HB3.out).below).mono ?_;rintro _ v4 ⟨Aa4,ca4,rfl,hr4,hb⟩
  have HB4:=aA (HB3.out.trans (hb.mono HB3.out.size))
  have HR4:=aA hr4
  clear hb hr4
  go_wp2_with fail
  refine hKK _ _ ⟨⟨_,HB4.out⟩,rfl⟩ (fun x=>∃y:Calm.On w2.heap.size w2,x=y.1) (fun _ h=>h) ⟨⟨_,HB4.out⟩,rfl⟩ ?_
  refine wpQuiet_nil ?_
  intro KK hKK
  rw[if_pos (by rfl)]
  go_wp2_with fail
  refine(HP2.out _ (HQ2.out.on HB4.out).below).mono ?_;rintro _ v5 ⟨Aa5,ca5,rfl,hr5,hb⟩
  have HB5:=aA (HB4.out.trans (hb.mono HB4.out.size))
  have HBO5:=aA (zai Aa4 Aa5 ca4 ca5 sP.length sP v5 (HR4.out.up hb) hr5 HLP.out rfl)
  clear hb hr5
  go_wp2_with fail
  refine hKK _ _ ⟨⟨_,HB5.out⟩,rfl⟩ (fun x=>∃y:Calm.On w2.heap.size w2,x=y.1) (fun _ h=>h) ⟨⟨_,HB5.out⟩,rfl⟩ ?_
  refine wpQuiet_nil ?_
  intro KK hKK
  rw[if_pos (by rfl)]
  go_wp2_with fail
  refine HBO5.out.mono ?_;rintro _ v6 ⟨rfl,n6,hv6⟩
  have HB6:Hid (Below w2.heap.size w2 v6):=aA (by rw[hv6];exact aB HB5.out _)
  clear hv6 HBO5 HR4
  go_wp2_with fail
  refine hKK _ _ ⟨⟨_,HB6.out⟩,rfl⟩ (fun x=>∃y:Calm.On w2.heap.size w2,x=y.1) (fun _ h=>h) ⟨⟨_,HB6.out⟩,rfl⟩ ?_
  repeat (go_big_quiet_step (fail))
  refine wpQuiet_nil ?_
  clear q0 q1 q2 q3
  go_wp2
  go_ret
  exact⟨rfl,(HQ2.out.on HB6.out).below⟩
end Go.Proofs.YtcgclkndkahgaaaGreat
