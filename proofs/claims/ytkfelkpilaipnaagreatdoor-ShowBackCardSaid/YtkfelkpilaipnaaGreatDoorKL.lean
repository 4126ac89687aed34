/- Part of the proofs over this program: Prod9, BldZ. -/
import Derived.Test.YtkfelkpilaipnaaGreatDoorKK
namespace Go.Proofs.YtkfelkpilaipnaaGreatDoor
set_option maxRecDepth 100000
set_option maxHeartbeats 40000000
open Go.RowKit
theorem zjJ {ts ts':List Gm.Tm} {x:Tok} {z:Int} (h:Gm.sym ts x=.ok (ts',z)) (h24:ts.length≤24):Gm.In z∧ts'.length≤24:=by
 unfold Gm.sym at h
 split at h
 ·refine⟨?_,zjM h24 h⟩
  unfold Gm.In
  rcases Gm.put_ok h with⟨j,_,_,hj,hl,_⟩|⟨_,_,hj,_⟩ <;> omega
 ·cases h
theorem zg7 {ns:List (List Int)} {ts ts':List Gm.Tm} {x:Tok} {z:Int} (h:Gm.symR ns ts x=.ok (ts',z)) (h24:ts.length≤24) (h16:ns.length≤16):Gm.In z∧ts'.length≤24:=by
 unfold Gm.symR at h
 split at h
 ·rename_i h0
  injection h with h
  injection h with h1 h2
  have:=Gm.find_lt ns x.t
  subst h1
  refine⟨?_,h24⟩
  unfold Gm.In
  omega
 ·exact zjJ h h24
theorem zg9 {ns:List (List Int)} {ts ts':List Gm.Tm} {x:Tok} {z:Int} (h:Gm.symP ns ts x=.ok (ts',z)) (h24:ts.length≤24):Gm.In z∧ts'.length≤24:=by
 unfold Gm.symP at h
 split at h
 ·cases h
 ·exact zjJ h h24
theorem Fit.more {ts:List Gm.Tm} {ns:List (List Int)} {rs:List Gm.Rl} {r:Gm.Rl} (h:Gm.Fit ⟨ts,ns,rs,0⟩) (hr:Gm.In r.l∧Gm.In r.p∧∀z∈r.r,Gm.In z):Gm.Fit ⟨ts,ns,rs++[r],0⟩:=by
 refine⟨h.t,h.n,fun x hx=>?_,h.s⟩
 rcases List.mem_append.1 hx with q|q
 ·exact h.r x q
 ·simp at q;subst q;exact hr
theorem find_in (ns:List (List Int)) (s:List Int) (h:ns.length≤16):Gm.In (Gm.find ns s):=by
 have h1:=Gm.find_lt ns s
 have h2:=Gm.find_ge ns s
 unfold Gm.In
 omega
theorem zcp {ns:List (List Int)} {ts ts':List Gm.Tm} {rs rs':List Gm.Rl} {pr:Y.Prd} (h:Gm.prod1 ns ts rs pr=.ok (ts',rs')):rs.length≠40∧∃tz az pz,Gm.rights ns ts [] (-1) pr.r=.ok (tz,az,pz)∧((pr.p=none∧ts'=tz∧rs'=rs++[⟨Gm.find ns pr.l.t,az,pz⟩]) ∨ ∃x z,pr.p=some x∧Gm.symP ns tz x=.ok (ts',z)∧rs'=rs++[⟨Gm.find ns pr.l.t,az,z⟩]):=by
 unfold Gm.prod1 at h
 split at h
 ·cases h
 ·rename_i h40
  obtain⟨⟨tz,az,pz⟩,h1,h2⟩:=Gm.R.bind_eq h
  refine⟨h40,tz,az,pz,h1,?_⟩
  cases hp:pr.p with
  | none =>
   rw[hp]at h2
   injection h2 with h2
   injection h2 with a b
   exact .inl ⟨rfl,a.symm,b.symm⟩
  | some x =>
   rw[hp]at h2
   obtain⟨⟨t2,z⟩,h3,h4⟩:=Gm.R.bind_eq h2
   injection h4 with h4
   injection h4 with a b
   simp only at a b
   subst a
   exact .inr ⟨x,z,rfl,h3,b.symm⟩
theorem zep {s:List Int} (h:Gm.named s=true):(K.str s).toList.isEmpty=false:=by
 have hne:s≠[]:=fun e=>by rw[e]at h;simp[Gm.named,T.isName,T.isLit]at h
 have hsn:¬(K.str s).toList=[]:=by rw[K.str_list];intro e;exact hne (by simpa[K.bytes] using e)
 simpa using hsn
theorem zlB (L:List Int) (B R:Nat) (ts ts':List Gm.Tm) (ns:List (List Int)) (rs rs':List Gm.Rl) (lv:Int) (pr:Y.Prd) (A:Option Addr) (c:Nat) (w:World) (hw:Wk w B w.heap.size R ts ns rs lv) (hf:Gm.Fit ⟨ts,ns,rs,0⟩) (hr:zjF L w B A pr.r) (hx:K.Tx pr.l.t) (hxr:∀x∈pr.r,K.Tx x.t∧Gm.named x.t=true∧x.t≠[101,114,114,111,114]) (hxp:∀x,pr.p=some x→K.Tx x.t∧Gm.named x.t=true∧x.t≠[101,114,114,111,114])
  (hB:B≤w.heap.size) (h24:ts.length≤24) (h16:ns.length≤16) (hrs:rs.length≤40) (hrl:pr.r.length≤1000) (hp:Gm.prod1 ns ts rs pr=.ok (ts',rs')) :
  Calls Tryz.prog 64 #[.pointer (some ⟨R,0,none⟩),.agg (aY L pr A c)] w fun e w'=>e=.returned (.tuple #[])∧(Wk w' B w'.heap.size R ts' ns rs' lv∧Gm.Fit ⟨ts',ns,rs',0⟩∧ts'.length≤24)∧Below B w w'∧KpA w w':=by
 have SC:=fun a w m X Y=>show(store a (.complex .f64 X Y) m).run Tryz.prog w=stored Tryz.prog w a (.complex .f64 X Y) m from run_store _ w a _ m rfl
 obtain⟨h40,tz,az,pz,hrt,hlast⟩:=zcp hp
 have HRT:=aA hrt
 have HLAST:=aA hlast
 have HXP:=aA hxp
 have HR:=aA hr
 have HDX:=aA (fun(i:Nat) (hi:i<pr.r.length)=>hxr _ (List.getElem_mem hi))
 have HF:=aA hf
 obtain⟨vT,vN,vR,hwr⟩:=id hw
 obtain⟨⟨AT,cT,rfl⟩,⟨AN,cN,rfl⟩,⟨AR,cR,rfl⟩⟩:=zai hwr
 have HRW:=aA hwr
 have hR0:=hwr.lt
 have HNO:=aA (fun(y:World) (lv':Int) (h:WRaw y B w.heap.size R (wC (.slice AT ts.length cT) (.slice AN ns.length cN) (.slice AR rs.length cR) lv') (.slice AT ts.length cT) (.slice AN ns.length cN) (.slice AR rs.length cR) ts ns rs) (hy:w.heap.size≤y.heap.size)=>zcr hf hx h hy)
 obtain⟨lf,hlf⟩:∃lf,lf=Gm.find ns pr.l.t:=⟨_,rfl⟩
 have HLI:Hid (Gm.In lf):=aA (by rw[hlf];exact find_in ns _ h16)
 rw[←hlf]at HNO HLAST
 clear hlf
 obtain⟨w1,hw1⟩:∃w1,w1=w.alloc (.cells (aY L pr A c) 104):=⟨_,rfl⟩
 have HQw1:Hid (WRaw w1 B w.heap.size R (wC (.slice AT ts.length cT) (.slice AN ns.length cN) (.slice AR rs.length cR) lv) (.slice AT ts.length cT) (.slice AN ns.length cN) (.slice AR rs.length cR) ts ns rs):=aA (by rw[hw1];exact hwr.alloc _)
 have HP1:Hid (w1.heap[w.heap.size]?=some (.cells (aY L pr A c) 104 (0,0))):=aA (by rw[hw1];exact heap_alloc_new w _)
 have hs1:w1.heap.size=w.heap.size+1:=by rw[hw1];simp
 have HW1:Hid (Below w.heap.size w w1):=aA (by rw[hw1];exact(Below.refl _ w).alloc (Nat.le_refl _) _)
 have hR1:R<w1.heap.size:=by omega
 have hd1:w.heap.size<w1.heap.size:=by omega
 have q0:∀y:Calm.On w1.heap.size w1,y.1.cell? ⟨R,0,none⟩=some (.slice AT ts.length cT):=fun y=>((HQw1.out.below y.2).at 0).1
 have q1:∀y:Calm.On w1.heap.size w1,y.1.cell? ⟨R,1,none⟩=some (.slice AN ns.length cN):=fun y=>((HQw1.out.below y.2).at 1).1
 have q2:∀y:Calm.On w1.heap.size w1,y.1.cell? ⟨R,2,none⟩=some (.slice AR rs.length cR):=fun y=>((HQw1.out.below y.2).at 2).1
 have q3:∀y:Calm.On w1.heap.size w1,y.1.cell? ⟨R,3,none⟩=some (.int .i64 0):=fun y=>((HQw1.out.below y.2).at 3).1
 have D0:∀y:Calm.On w1.heap.size w1,y.1.cell? ⟨w.heap.size,0,none⟩=some (.string (K.str pr.l.t)):=fun y=>cell_of_row y.1 _ 0 _ _ _ ((y.2.block w.heap.size hd1).trans HP1.out)
 have HRB:=aA (fun y=>zfW lf y)
 unfold aY at HP1 hw1 ⊢
 clear hwr hw hf hr hx hxr hxp hp hrt hlast
 generalize rfX L pr.l=X0 at *
 generalize rfY L pr.l=Y0 at *
 generalize K.str pr.l.t=s0 at *
 go_enter Tryz.func64,Tryz.ntmps64
 go_upto_region 1 with fail
 rw[←hw1]
 clear hw1
 have HDa:=aA (aB (Below.refl w1.heap.size w1) 1)
 have HDb:=aA (fun o=>(aB (Below.refl w1.heap.size w1) 1).alloc (Nat.le_refl _) o)
 have RB:=HRB.out
 refine CalmN.region_tree (fun x=>∃y:Calm.On w1.heap.size w1,x=y.1) (.two [0,1,2,3,4,5,6] 7 (.one [8] 9 (.one [] 10 (.fin []))) 9 (.one [] 7 (.one [8] 10 (.fin [])))) (by kernel_rfl) (by kernel_rfl) (fun _ _ d _ _ h=>by cases d <;> exact h) ⟨⟨w1.drew,HDa.out⟩,rfl⟩ ?_
 simp only[CalmN.wpT,CalmN.wpSt,CalmN.pickOps,List.getElem?_toArray,List.getElem?_cons_zero,List.getElem?_cons_succ]
 repeat (go_big_quiet_step (fail))
 refine wpQuiet_nil ?_
 clear q0 q1 q2 q3 D0
 refine⟨?_,?_⟩
 ·intro KK hKK
  rw[if_pos (by rfl)]
  go_wp2_with fail
  refine(HNO.out w1.drew _ HQw1.out.drew9 (by show w.heap.size≤w1.heap.size;omega)).mono ?_;rintro _ w2 ⟨rfl,hb2⟩
  have HB2:=aA ((aB (Below.refl w1.heap.size w1) 1).trans hb2)
  have hz2:w1.heap.size≤w2.heap.size:=HB2.out.size
  have HB3:=aA (fun o=>HB2.out.alloc hz2 o)
  clear hb2
  go_wp2_with fail
  refine hKK _ _ ⟨⟨w2,HB2.out⟩,rfl⟩ (fun x=>∃y:Calm.On w1.heap.size w1,x=y.1) (fun _ h=>h) ⟨⟨w2,HB2.out⟩,rfl⟩ ?_
  repeat (go_big_quiet_step (fail))
  refine wpQuiet_nil ?_
  intro KK hKK
  rw[if_pos (by rfl)]
  go_wp2_with fail
  refine hKK _ _ ⟨⟨_,HB3.out _⟩,rfl⟩ (fun x=>∃y:Calm.On w1.heap.size w1,x=y.1) (fun _ h=>h) ⟨⟨_,HB3.out _⟩,rfl⟩ ?_
  refine wpQuiet_nil ?_
  intro KK hKK
  rw[if_pos (by rfl)]
  go_wp2_with fail
  refine hKK _ _ ⟨⟨_,HB3.out _⟩,rfl⟩ (fun x=>∃y:Calm.On w1.heap.size w1,x=y.1) (fun _ h=>h) ⟨⟨_,HB3.out _⟩,rfl⟩ ?_
  refine wpQuiet_nil ?_
  clear hKK RB
  obtain⟨wq,hwq⟩:∃x,x=w2.alloc (.cells #[.int .i64 lf,.slice none 0 0,.int .i64 (-1)] 45):=⟨_,rfl⟩
  rw[←hwq]
  obtain⟨Q,hQ⟩:∃x,x=w2.heap.size:=⟨_,rfl⟩
  rw[←hQ]
  have HPX:Hid (PrJ w wq B R Q ns rs lv ts #[.string s0,.complex .f64 X0 Y0,.slice A pr.r.length c,.string (soS pr.p),.complex .f64 (soX L pr.p) (soY L pr.p)] lf (.slice none 0 0) [] (-1)):=aA (by
   have hbw:Below w.heap.size w wq:=by rw[hwq];exact(HW1.out.trans (HB2.out.mono HW1.out.size)).alloc (Nat.le_trans HW1.out.size hz2) _
   have hb1:Below w1.heap.size w1 wq:=by rw[hwq];exact HB3.out _
   exact⟨⟨_,_,_,HQw1.out.below hb1⟩,HF.out,h24,hbw.mono hB,KpT.below hbw,by omega,(hb1.block w.heap.size hd1).trans HP1.out,by rw[hwq,hQ];exact heap_alloc_new w2 _,za8 _ _⟩)
  clear hwq hQ HB2 HB3 hz2 HNO HQw1 HP1 HW1 HRB HDa HDb hs1 hR1 hd1 HRW
  have HEX:=aA (Array.getElem?_eq_some_iff.1 HPX.out.pb).1
  obtain⟨vTq,vNq,vRq,hwq⟩:=HPX.out.b
  obtain⟨_,_,⟨ARq,cRq,rfl⟩⟩:=zai hwq
  obtain⟨k2,_,hRq⟩:=hwq.at 2
  simp only[wC,List.getElem?_toArray,List.getElem?_cons_zero,List.getElem?_cons_succ]at k2
  have e40:((rs.length:Int)==40)=false:=beq_eq_false_iff_ne.2 (by omega)
  clear hwq
  go_wp2
  clear k2 hRq e40
  go_loopw [5] (fun vi wr=>∃(i:Nat) (tk:List Gm.Tm) (acc:List Int) (p:Int) (v:Value),i≤pr.r.length∧vi=.int .i64 i∧acc.length=i∧Hid (Gm.rights ns tk acc p (pr.r.drop i)=.ok (tz,az,pz))∧Hid ((∀z∈acc,Gm.In z)∧Gm.In p)∧Hid (PrJ w wr B R Q ns rs lv tk #[.string s0,.complex .f64 X0 Y0,.slice A pr.r.length c,.string (soS pr.p),.complex .f64 (soX L pr.p) (soY L pr.p)] lf v acc p)) (fun vi _=>pr.r.length-(intOf vi).toNat)
  case atStart=>exact⟨0,ts,[],-1,.slice none 0 0,Nat.zero_le _,rfl,rfl,HRT,aA ⟨by simp,by unfold Gm.In;omega⟩,HPX⟩
  case round =>
   clear HPX HEX
   obtain⟨i,tk,acc,p,v,hi,rfl,hai,HE,HIN,HP⟩:=hrel
   have HAI:=aA hai
   have p2:wr.cell? ⟨w.heap.size,2,none⟩=some (.slice A pr.r.length c):=cell_of_row wr _ 2 _ _ _ HP.out.pb
   have hPs:=(Array.getElem?_eq_some_iff.1 HP.out.pb).1
   obtain⟨vTr,vNr,vRr,hwr⟩:=HP.out.b
   have f10:=(hwr.at 10).1
   have hRr:=hwr.lt
   simp only[wC,List.getElem?_toArray,List.getElem?_cons_zero,List.getElem?_cons_succ]at f10
   clear hwr hai
   by_cases hlt:i<pr.r.length
   ·obtain⟨g,o,rfl,hgB,hc⟩:=HR.out (by omega)
    have k0:=(HP.out.w.cell (p:=⟨g,o+i*2,none⟩) hgB).trans (hc i hlt).1
    have k1:=(HP.out.w.cell (p:=⟨g,o+i*2+1,none⟩) hgB).trans (hc i hlt).2
    have hBs:=HP.out.w.size
    have hgs:g<wr.heap.size:=by omega
    obtain⟨hx1,hx2,hx3⟩:=HDX.out i hlt
    have hE:=HE.out
    rw[zaR hlt]at hE
    have h6:acc.length≠6:=fun q=>by rw[if_pos q]at hE;cases hE
    rw[if_neg h6]at hE
    obtain⟨⟨t2,zz⟩,hs,hE2⟩:=Gm.R.bind_eq hE
    simp only at hE2
    have HE2:=aA hE2
    obtain⟨hstep,hfit2⟩:=zd0 hs hx1 HP.out.f
    obtain⟨hzin,ht2⟩:=zg7 hs HP.out.t h16
    have HF2:=aA (And.intro hfit2 (And.intro ht2 hzin))
    have e6:((i:Int)==6)=false:=beq_eq_false_iff_ne.2 (by have:=HAI.out;omega)
    have HNM:=aA (fun(y:World)=>zay pr.r[i].t hx1 y)
    rw[hx2]at HNM
    have HSY:=aA (fun(y:World) (h:Wk y B w.heap.size R tk ns rs lv) (hy:w.heap.size≤y.heap.size)=>zdo L B w.heap.size R tk t2 ns rs lv zz pr.r[i] true y h HP.out.f hx1 hx3 hy (Nat.le_trans hB hy) hstep HP.out.t h16)
    unfold bK at HSY
    clear hc hE hE2 hs hstep hfit2 hzin ht2 hx1 hx2 hx3 h6
    unfold rfX rfY at k1
    generalize K.str pr.r[i].t=sx at *
    generalize Fl.fl (Pl.pos (L.take pr.r[i].o)).1=X at *
    generalize Fl.fl (Pl.pos (L.take pr.r[i].o)).2=Y at *
    have HPA:=aA (HP.out.alloc (.cells #[.string sx,.complex .f64 X Y] 90) hB)
    have HCR:=aA (heap_alloc_new wr (.cells #[.string sx,.complex .f64 X Y] 90))
    have HC:=aA (HSY.out _ HPA.out.b HPA.out.w.size)
    go_wp2_with fail
    refine(HNM.out _).mono ?_;rintro _ _ ⟨rfl,rfl⟩
    go_wp2_with fail
    refine HC.out.mono ?_;rintro _ w2 ⟨rfl,hb2,hw2,hk2⟩
    have HP2:=aA (HPA.out.call hb2 hw2 hk2 HF2.out.1 HF2.out.2.1)
    obtain⟨Av,nv,cv,hvv⟩:=zab HP2.out.o
    subst hvv
    have q1:w2.cell? ⟨Q,1,none⟩=some (.slice Av nv cv):=cell_of_row w2 _ 1 _ _ _ HP2.out.qb
    have hQs:=(Array.getElem?_eq_some_iff.1 HP2.out.qb).1
    have HP3:=aA (HP2.out.alloc (.cells #[.int .i64 zz] 3) hB)
    have HS2:Hid (w.heap.size≤w2.heap.size):=aA HP2.out.w.size
    have hil:acc.length≤1000000000000:=by have:=HAI.out;omega
    clear hb2 hw2 hk2 p2 f10 k0 k1 HC HSY HNM
    by_cases hzp:0≤zz
    ·have HX:Hid (Gm.rights ns t2 (acc++[zz]) zz (pr.r.drop (i+1))=.ok (tz,az,pz)):=aA (by have h:=HE2.out;rw[if_pos hzp]at h;exact h)
     have e:decide (0≤zz)=true:=decide_eq_true hzp
     go_wp2_with (refine zbO rfl (.tmp 63) (.tmp 65) _ rfl Tryz.underlying43 w.heap.size _ acc rfl HP3.out.o _ _ zz rfl (aH w2 [.int .i64 zz] 3 0) hil (by have:=HS2.out;simp;omega) ?_;intro v4 w4 ho4 hg4;obtain⟨A4,n4,c4,rfl⟩:=zab ho4;have happ:=aA (HP3.out.app ho4 hg4 hB);have q41:w4.cell? ⟨Q,1,none⟩=some (.slice Av nv cv):=cell_of_row w4 _ 1 _ _ _ happ.out.1;have q42:w4.cell? ⟨Q,2,none⟩=some (.int .i64 p):=cell_of_row w4 _ 2 _ _ _ happ.out.1;have f41:=frozen_of_row w4 _ 1 _ _ happ.out.1;have f42:=frozen_of_row w4 _ 2 _ _ happ.out.1;have hQ4:=(Array.getElem?_eq_some_iff.1 happ.out.1).1;clear ho4 hg4)
     go_roundw
     case rel=>exact⟨i+1,t2,acc++[zz],zz,.slice A4 n4 c4,hlt,by go_num,by rw[List.length_append,List.length_singleton,HAI.out],HX,aA ⟨fun z hz=>by rcases List.mem_append.1 hz with q|q;exact HIN.out.1 z q;rw[List.mem_singleton.1 q];exact HF2.out.2.2,HF2.out.2.2⟩,aA (happ.out.2.setQ 2 (.int .i64 zz) rfl (happ.out.2.o.set_away happ.out.2.qb 2 _) hB)⟩
     case measure=>simp[intOf];omega
    ·have HX:Hid (Gm.rights ns t2 (acc++[zz]) p (pr.r.drop (i+1))=.ok (tz,az,pz)):=aA (by have h:=HE2.out;rw[if_neg hzp]at h;exact h)
     have e:decide (0≤zz)=false:=decide_eq_false hzp
     go_wp2_with (refine zbO rfl (.tmp 63) (.tmp 65) _ rfl Tryz.underlying43 w.heap.size _ acc rfl HP3.out.o _ _ zz rfl (aH w2 [.int .i64 zz] 3 0) hil (by have:=HS2.out;simp;omega) ?_;intro v4 w4 ho4 hg4;obtain⟨A4,n4,c4,rfl⟩:=zab ho4;have happ:=aA (HP3.out.app ho4 hg4 hB);have q41:w4.cell? ⟨Q,1,none⟩=some (.slice Av nv cv):=cell_of_row w4 _ 1 _ _ _ happ.out.1;have q42:w4.cell? ⟨Q,2,none⟩=some (.int .i64 p):=cell_of_row w4 _ 2 _ _ _ happ.out.1;have f41:=frozen_of_row w4 _ 1 _ _ happ.out.1;have f42:=frozen_of_row w4 _ 2 _ _ happ.out.1;have hQ4:=(Array.getElem?_eq_some_iff.1 happ.out.1).1;clear ho4 hg4)
     go_roundw
     case rel=>exact⟨i+1,t2,acc++[zz],p,.slice A4 n4 c4,hlt,by go_num,by rw[List.length_append,List.length_singleton,HAI.out],HX,aA ⟨fun z hz=>by rcases List.mem_append.1 hz with q|q;exact HIN.out.1 z q;rw[List.mem_singleton.1 q];exact HF2.out.2.2,HIN.out.2⟩,aA happ.out.2⟩
     case measure=>simp[intOf];omega
   ·obtain rfl:i=pr.r.length:=by omega
    have hE:=HE.out
    rw[zbg (Nat.le_refl _)]at hE
    injection hE with hE
    injection hE with e1 hE
    injection hE with e2 e3
    subst e1
    subst e2
    subst e3
    have p3:wr.cell? ⟨w.heap.size,3,none⟩=some (.string (soS pr.p)):=cell_of_row wr _ 3 _ _ _ HP.out.pb
    have p4:wr.cell? ⟨w.heap.size,4,none⟩=some (.complex .f64 (soX L pr.p) (soY L pr.p)):=cell_of_row wr _ 4 _ _ _ HP.out.pb
    rcases HLAST.out with⟨hpn,e1,e2⟩|⟨x,z2,hps,hsp,e2⟩
    ·subst e1
     subst e2
     replace p3:wr.cell? ⟨w.heap.size,3,none⟩=some (.string ⟨#[]⟩):=by rw[p3,hpn];rfl
     clear p4
     go_wp2_with fail
     obtain⟨wz,hwz⟩:∃x,x=wr:=⟨_,rfl⟩
     rw[←hwz]
     have HPZ:Hid (PrJ w wz B R Q ns rs lv ts' #[.string s0,.complex .f64 X0 Y0,.slice A pr.r.length c,.string (soS pr.p),.complex .f64 (soX L pr.p) (soY L pr.p)] lf v acc p):=aA (by rw[hwz];exact HP.out)
     clear hwz p3
     obtain⟨vT',vN',vR',hfin⟩:=HPZ.out.b
     have HFB:=aA hfin
     obtain⟨_,_,⟨AR2,cR2,hvR⟩⟩:=zai hfin
     subst hvR
     obtain⟨Av,cv,hvv,hv1,hv2,hrow⟩:=HPZ.out.o.row hB
     subst hvv
     have c2:wz.cell? ⟨R,2,none⟩=some (.slice AR2 rs.length cR2):=(hfin.at 2).1
     have hRs:=(hfin.at 2).2.2
     have hQs:=(Array.getElem?_eq_some_iff.1 HPZ.out.qb).1
     have HROW:=aA (And.intro hv1 (And.intro hv2 hrow))
     clear hfin hrow hv1 hv2
     have E0:∀y:Calm.OnB Q wz,y.1.cell? ⟨Q,0,none⟩=some (.int .i64 lf):=fun y=>cell_of_row y.1 _ 0 _ _ _ (y.2.trans HPZ.out.qb)
     have E1:∀y:Calm.OnB Q wz,y.1.cell? ⟨Q,1,none⟩=some (.slice Av acc.length cv):=fun y=>cell_of_row y.1 _ 1 _ _ _ (y.2.trans HPZ.out.qb)
     have E2:∀y:Calm.OnB Q wz,y.1.cell? ⟨Q,2,none⟩=some (.int .i64 p):=fun y=>cell_of_row y.1 _ 2 _ _ _ (y.2.trans HPZ.out.qb)
     refine CalmN.region_tree (fun x=>∃y:Calm.OnB Q wz,x=y.1) (.two [0,1,2,3,4,6] 5 (.one [] 7 (.one [] 8 (.one [9,10,11] 12 (.fin [])))) 7 (.one [] 5 (.one [] 8 (.one [9,10,11] 12 (.fin []))))) (by kernel_rfl) (by kernel_rfl) (fun _ _ d _ _ h=>by cases d <;> exact h) ⟨⟨wz.drew,rfl⟩,rfl⟩ ?_
     simp only[CalmN.wpT,CalmN.wpSt,CalmN.pickOps,List.getElem?_toArray,List.getElem?_cons_zero,List.getElem?_cons_succ]
     repeat (go_big_quiet_step (fail))
     refine wpQuiet_nil ?_
     clear E0 E1 E2
     have HQ1:=aA (fun o=>(Below.heap_alloc wz o Q hQs))
     refine⟨?_,?_⟩
     ·intro KK hKK
      rw[if_pos (by rfl)]
      go_wp2_with fail
      refine hKK _ _ ⟨⟨wz.drew,rfl⟩,rfl⟩ (fun x=>∃y:Calm.OnB Q wz,x=y.1) (fun _ h=>h) ⟨⟨wz.drew,rfl⟩,rfl⟩ ?_
      refine wpQuiet_nil ?_
      intro KK hKK
      rw[if_pos (by rfl)]
      go_wp2_with fail
      refine hKK _ _ ⟨⟨(wz.alloc _).drew,HQ1.out _⟩,rfl⟩ (fun x=>∃y:Calm.OnB Q wz,x=y.1) (fun _ h=>h) ⟨⟨(wz.alloc _).drew,HQ1.out _⟩,rfl⟩ ?_
      refine wpQuiet_nil ?_
      intro KK hKK
      rw[if_pos (by rfl)]
      obtain⟨wy,hwy⟩:∃x,x=(wz.alloc (.cells #[.int .i64 lf,.slice Av acc.length cv,.int .i64 p] 45)).drew:=⟨_,rfl⟩
      rw[←hwy]
      have A0:Hid (WRaw wy B w.heap.size R (wC vT' vN' (.slice AR2 rs.length cR2) lv) vT' vN' (.slice AR2 rs.length cR2) ts' ns rs):=aA (by rw[hwy];exact(HFB.out.alloc (.cells #[.int .i64 lf,.slice Av acc.length cv,.int .i64 p] 45)).drew9)
      have HWY:Hid (Below B w wy):=aA (by rw[hwy];exact aB (HPZ.out.w.alloc (Nat.le_trans hB HPZ.out.w.size) _) 1)
      have HKY:Hid (KpT w wy):=aA (by rw[hwy];exact HPZ.out.k.trans (KpT.below (aB ((Below.refl _ _).alloc (Nat.le_refl _) _) 1)))
      have HQY:Hid (wy.heap[Q]?=wz.heap[Q]?):=aA (by rw[hwy];exact HQ1.out _)
      have HZC:Hid (∀j u,(rlC (⟨lf,acc,p⟩,Av,cv))[j]?=some u→wy.cell? ⟨wz.heap.size,j,none⟩=some u):=aA (fun j u hj=>by rw[hwy];exact(aH wz (rlC (⟨lf,acc,p⟩,Av,cv)) 45 j).trans hj)
      have HRW2:Hid (bP wy B wy.heap.size Av acc):=aA (by
       rw[hwy]
       exact(HROW.out.2.2.grown (w':=(wz.alloc (.cells #[.int .i64 lf,.slice Av acc.length cv,.int .i64 p] 45)).drew) (row:=none) ((World.grownBy_alloc wz (.cells #[.int .i64 lf,.slice Av acc.length cv,.int .i64 p] 45) none).trans (aE _ none)) (fun g e=>by cases e)).more (by show wz.heap.size≤(wz.alloc _).heap.size;simp))
      have HSW:Hid (w.heap.size≤wy.heap.size):=aA HWY.out.size
      clear hwy
      refine zal (.tmp 102) (.tmp 104) _ rfl Tryz.underlying24 B w.heap.size _ rs rfl A0.out.r _ _ (⟨lf,acc,p⟩,Av,cv) rfl HZC.out ⟨HROW.out.1,HROW.out.2.1,HRW2.out⟩ (by omega) (Nat.le_trans hB HSW.out) HSW.out ?_
      intro v8 w8 ho8 hg8
      have A1:=aA ((A0.out.more (Nat.le_trans HSW.out hg8.size)).r_put ho8 hg8)
      obtain⟨A8,c8,rfl,_,_⟩:=aM ho8
      have HQ8:Hid (w8.heap[Q]?=wz.heap[Q]?):=aA ((hg8.block Q (by have:=(Array.getElem?_eq_some_iff.1 (HQY.out.trans HPZ.out.qb)).1;exact this) (fun e=>by
       obtain⟨_,_,_,h3,_⟩:=A0.out.r
       have:=h3 _ e.symm
       have:=HPZ.out.q
       omega)).trans HQY.out)
      have HK8:Hid (KpA w w8):=aA (HKY.out.a.trans (by obtain⟨_,_,h2,_⟩:=A0.out.r;exact KpA.own h2 hg8 (.inr (.inr rfl))))
      have HW8:Hid (Below B w w8):=aA (HWY.out.grown hg8 (Nat.le_trans hB HSW.out) (fun k e=>by obtain⟨_,_,h2,_⟩:=A0.out.r;exact(aF h2 e).1))
      obtain⟨n8,hn8⟩:∃n,n=(rs++[(⟨lf,acc,p⟩:Gm.Rl)]).length:=⟨_,rfl⟩
      have c28:w8.cell? ⟨R,2,none⟩=some (.slice AR2 rs.length cR2):=(A1.out.at 2).1
      have f28:=(A1.out.at 2).2.1
      have hR8:=(A1.out.at 2).2.2
      rw[←hn8]at A1 ⊢
      clear ho8 hg8 A0 hn8
      refine hKK _ _ ⟨⟨w8,HQ8.out⟩,rfl⟩ (fun x=>∃y:Calm.OnB Q wz,x=y.1) (fun _ h=>h) ⟨⟨w8,HQ8.out⟩,rfl⟩ ?_
      go_frame
      repeat (go_big_quiet_step (fail))
      refine wpQuiet_nil ?_
      intro KK hKK
      rw[if_pos (by rfl)]
      go_wp2_with fail
      have HQ9:=aA (fun u=>(Below.heap_setCell w8 ⟨R,2,none⟩ u Q (by simp only;have:=HPZ.out.q;omega)).trans HQ8.out)
      refine hKK _ _ ⟨⟨w8.setCell ⟨R,2,none⟩ _,HQ9.out _⟩,rfl⟩ (fun x=>∃y:Calm.OnB Q wz,x=y.1) (fun _ h=>h) ⟨⟨w8.setCell ⟨R,2,none⟩ _,HQ9.out _⟩,rfl⟩ ?_
      refine wpQuiet_nil ?_
      clear hKK
      go_wp2
      go_end0
      refine⟨rfl,⟨?_,Fit.more HP.out.f ⟨HLI.out,HIN.out.2,HIN.out.1⟩,HPZ.out.t⟩,HW8.out.setCell A1.out.hR _,HK8.out.trans (KpT.set A1.out 2 _).a⟩
      rw[aT]
      exact⟨vT',vN',_,A1.out.set 2 _⟩
     ·intro KK hKK
      rw[if_pos (by rfl)]
      go_wp2_with fail
      refine hKK _ _ ⟨⟨(wz.alloc _).drew,HQ1.out _⟩,rfl⟩ (fun x=>∃y:Calm.OnB Q wz,x=y.1) (fun _ h=>h) ⟨⟨(wz.alloc _).drew,HQ1.out _⟩,rfl⟩ ?_
      refine wpQuiet_nil ?_
      intro KK hKK
      rw[if_pos (by rfl)]
      go_wp2_with fail
      refine hKK _ _ ⟨⟨(wz.alloc _).drew,HQ1.out _⟩,rfl⟩ (fun x=>∃y:Calm.OnB Q wz,x=y.1) (fun _ h=>h) ⟨⟨(wz.alloc _).drew,HQ1.out _⟩,rfl⟩ ?_
      refine wpQuiet_nil ?_
      intro KK hKK
      rw[if_pos (by rfl)]
      obtain⟨wy,hwy⟩:∃x,x=(wz.alloc (.cells #[.int .i64 lf,.slice Av acc.length cv,.int .i64 p] 45)).drew:=⟨_,rfl⟩
      rw[←hwy]
      have A0:Hid (WRaw wy B w.heap.size R (wC vT' vN' (.slice AR2 rs.length cR2) lv) vT' vN' (.slice AR2 rs.length cR2) ts' ns rs):=aA (by rw[hwy];exact(HFB.out.alloc (.cells #[.int .i64 lf,.slice Av acc.length cv,.int .i64 p] 45)).drew9)
      have HWY:Hid (Below B w wy):=aA (by rw[hwy];exact aB (HPZ.out.w.alloc (Nat.le_trans hB HPZ.out.w.size) _) 1)
      have HKY:Hid (KpT w wy):=aA (by rw[hwy];exact HPZ.out.k.trans (KpT.below (aB ((Below.refl _ _).alloc (Nat.le_refl _) _) 1)))
      have HQY:Hid (wy.heap[Q]?=wz.heap[Q]?):=aA (by rw[hwy];exact HQ1.out _)
      have HZC:Hid (∀j u,(rlC (⟨lf,acc,p⟩,Av,cv))[j]?=some u→wy.cell? ⟨wz.heap.size,j,none⟩=some u):=aA (fun j u hj=>by rw[hwy];exact(aH wz (rlC (⟨lf,acc,p⟩,Av,cv)) 45 j).trans hj)
      have HRW2:Hid (bP wy B wy.heap.size Av acc):=aA (by
       rw[hwy]
       exact(HROW.out.2.2.grown (w':=(wz.alloc (.cells #[.int .i64 lf,.slice Av acc.length cv,.int .i64 p] 45)).drew) (row:=none) ((World.grownBy_alloc wz (.cells #[.int .i64 lf,.slice Av acc.length cv,.int .i64 p] 45) none).trans (aE _ none)) (fun g e=>by cases e)).more (by show wz.heap.size≤(wz.alloc _).heap.size;simp))
      have HSW:Hid (w.heap.size≤wy.heap.size):=aA HWY.out.size
      clear hwy
      refine zal (.tmp 102) (.tmp 104) _ rfl Tryz.underlying24 B w.heap.size _ rs rfl A0.out.r _ _ (⟨lf,acc,p⟩,Av,cv) rfl HZC.out ⟨HROW.out.1,HROW.out.2.1,HRW2.out⟩ (by omega) (Nat.le_trans hB HSW.out) HSW.out ?_
      intro v8 w8 ho8 hg8
      have A1:=aA ((A0.out.more (Nat.le_trans HSW.out hg8.size)).r_put ho8 hg8)
      obtain⟨A8,c8,rfl,_,_⟩:=aM ho8
      have HQ8:Hid (w8.heap[Q]?=wz.heap[Q]?):=aA ((hg8.block Q (by have:=(Array.getElem?_eq_some_iff.1 (HQY.out.trans HPZ.out.qb)).1;exact this) (fun e=>by
       obtain⟨_,_,_,h3,_⟩:=A0.out.r
       have:=h3 _ e.symm
       have:=HPZ.out.q
       omega)).trans HQY.out)
      have HK8:Hid (KpA w w8):=aA (HKY.out.a.trans (by obtain⟨_,_,h2,_⟩:=A0.out.r;exact KpA.own h2 hg8 (.inr (.inr rfl))))
      have HW8:Hid (Below B w w8):=aA (HWY.out.grown hg8 (Nat.le_trans hB HSW.out) (fun k e=>by obtain⟨_,_,h2,_⟩:=A0.out.r;exact(aF h2 e).1))
      obtain⟨n8,hn8⟩:∃n,n=(rs++[(⟨lf,acc,p⟩:Gm.Rl)]).length:=⟨_,rfl⟩
      have c28:w8.cell? ⟨R,2,none⟩=some (.slice AR2 rs.length cR2):=(A1.out.at 2).1
      have f28:=(A1.out.at 2).2.1
      have hR8:=(A1.out.at 2).2.2
      rw[←hn8]at A1 ⊢
      clear ho8 hg8 A0 hn8
      refine hKK _ _ ⟨⟨w8,HQ8.out⟩,rfl⟩ (fun x=>∃y:Calm.OnB Q wz,x=y.1) (fun _ h=>h) ⟨⟨w8,HQ8.out⟩,rfl⟩ ?_
      go_frame
      repeat (go_big_quiet_step (fail))
      refine wpQuiet_nil ?_
      intro KK hKK
      rw[if_pos (by rfl)]
      go_wp2_with fail
      have HQ9:=aA (fun u=>(Below.heap_setCell w8 ⟨R,2,none⟩ u Q (by simp only;have:=HPZ.out.q;omega)).trans HQ8.out)
      refine hKK _ _ ⟨⟨w8.setCell ⟨R,2,none⟩ _,HQ9.out _⟩,rfl⟩ (fun x=>∃y:Calm.OnB Q wz,x=y.1) (fun _ h=>h) ⟨⟨w8.setCell ⟨R,2,none⟩ _,HQ9.out _⟩,rfl⟩ ?_
      refine wpQuiet_nil ?_
      clear hKK
      go_wp2
      go_end0
      refine⟨rfl,⟨?_,Fit.more HP.out.f ⟨HLI.out,HIN.out.2,HIN.out.1⟩,HPZ.out.t⟩,HW8.out.setCell A1.out.hR _,HK8.out.trans (KpT.set A1.out 2 _).a⟩
      rw[aT]
      exact⟨vT',vN',_,A1.out.set 2 _⟩
    ·subst e2
     obtain⟨hx1,hx2,hx3⟩:=HXP.out x hps
     obtain⟨hstep,hfit2⟩:=zd2 hsp hx1 HP.out.f
     obtain⟨hzin,ht2⟩:=zg9 hsp HP.out.t
     have HZ2:=aA hzin
     have HF2:=aA (And.intro hfit2 ht2)
     have HNM:=aA (fun(y:World)=>zay x.t hx1 y)
     rw[hx2]at HNM
     have HSY:=aA (fun(y:World) (h:Wk y B w.heap.size R tk ns rs lv) (hy:w.heap.size≤y.heap.size)=>zdo L B w.heap.size R tk ts' ns rs lv z2 x false y h HP.out.f hx1 hx3 hy (Nat.le_trans hB hy) hstep HP.out.t h16)
     unfold bK at HSY
     have hne:(K.str x.t).toList.isEmpty=false:=zep hx2
     replace p3:wr.cell? ⟨w.heap.size,3,none⟩=some (.string (K.str x.t)):=by rw[p3,hps];rfl
     replace p4:wr.cell? ⟨w.heap.size,4,none⟩=some (.complex .f64 (Fl.fl (Pl.pos (L.take x.o)).1) (Fl.fl (Pl.pos (L.take x.o)).2)):=by rw[p4,hps];rfl
     have HC:=aA (HSY.out _ HP.out.b HP.out.w.size)
     clear hx1 hx2 hx3 hstep hfit2 hzin ht2 hsp HSY
     generalize K.str x.t=sx at *
     generalize Fl.fl (Pl.pos (L.take x.o)).1=X at *
     generalize Fl.fl (Pl.pos (L.take x.o)).2=Y at *
     go_wp2_with fail
     refine(HNM.out _).mono ?_;rintro _ _ ⟨rfl,rfl⟩
     go_wp2_with fail
     refine HC.out.mono ?_;rintro _ w2 ⟨rfl,hb2,hw2,hk2⟩
     have HP2:=aA (HP.out.call hb2 hw2 hk2 HF2.out.1 HF2.out.2)
     have q2:w2.cell? ⟨Q,2,none⟩=some (.int .i64 p):=cell_of_row w2 _ 2 _ _ _ HP2.out.qb
     have f2:=frozen_of_row w2 _ 2 _ _ HP2.out.qb
     have hQ2:=(Array.getElem?_eq_some_iff.1 HP2.out.qb).1
     clear hb2 hw2 hk2 p3 p4
     go_upto_region 20 with fail
     obtain⟨wz,hwz⟩:∃x,x=w2.setCell ⟨Q,2,none⟩ (.int .i64 z2):=⟨_,rfl⟩
     rw[←hwz]
     have HPZ:Hid (PrJ w wz B R Q ns rs lv ts' #[.string s0,.complex .f64 X0 Y0,.slice A pr.r.length c,.string (soS pr.p),.complex .f64 (soX L pr.p) (soY L pr.p)] lf v acc z2):=aA (by rw[hwz];exact HP2.out.setQ 2 (.int .i64 z2) rfl (HP2.out.o.set_away HP2.out.qb 2 _) hB)
     clear hwz q2 f2 hQ2
     obtain⟨vT',vN',vR',hfin⟩:=HPZ.out.b
     have HFB:=aA hfin
     obtain⟨_,_,⟨AR2,cR2,hvR⟩⟩:=zai hfin
     subst hvR
     obtain⟨Av,cv,hvv,hv1,hv2,hrow⟩:=HPZ.out.o.row hB
     subst hvv
     have c2:wz.cell? ⟨R,2,none⟩=some (.slice AR2 rs.length cR2):=(hfin.at 2).1
     have hRs:=(hfin.at 2).2.2
     have hQs:=(Array.getElem?_eq_some_iff.1 HPZ.out.qb).1
     have HROW:=aA (And.intro hv1 (And.intro hv2 hrow))
     clear hfin hrow hv1 hv2
     have E0:∀y:Calm.OnB Q wz,y.1.cell? ⟨Q,0,none⟩=some (.int .i64 lf):=fun y=>cell_of_row y.1 _ 0 _ _ _ (y.2.trans HPZ.out.qb)
     have E1:∀y:Calm.OnB Q wz,y.1.cell? ⟨Q,1,none⟩=some (.slice Av acc.length cv):=fun y=>cell_of_row y.1 _ 1 _ _ _ (y.2.trans HPZ.out.qb)
     have E2:∀y:Calm.OnB Q wz,y.1.cell? ⟨Q,2,none⟩=some (.int .i64 z2):=fun y=>cell_of_row y.1 _ 2 _ _ _ (y.2.trans HPZ.out.qb)
     refine CalmN.region_tree (fun x=>∃y:Calm.OnB Q wz,x=y.1) (.two [0,1,2,3,4,6] 5 (.one [] 7 (.one [] 8 (.one [9,10,11] 12 (.fin [])))) 7 (.one [] 5 (.one [] 8 (.one [9,10,11] 12 (.fin []))))) (by kernel_rfl) (by kernel_rfl) (fun _ _ d _ _ h=>by cases d <;> exact h) ⟨⟨wz.drew,rfl⟩,rfl⟩ ?_
     simp only[CalmN.wpT,CalmN.wpSt,CalmN.pickOps,List.getElem?_toArray,List.getElem?_cons_zero,List.getElem?_cons_succ]
     repeat (go_big_quiet_step (fail))
     refine wpQuiet_nil ?_
     clear E0 E1 E2
     have HQ1:=aA (fun o=>(Below.heap_alloc wz o Q hQs))
     refine⟨?_,?_⟩
     ·intro KK hKK
      rw[if_pos (by rfl)]
      go_wp2_with fail
      refine hKK _ _ ⟨⟨wz.drew,rfl⟩,rfl⟩ (fun x=>∃y:Calm.OnB Q wz,x=y.1) (fun _ h=>h) ⟨⟨wz.drew,rfl⟩,rfl⟩ ?_
      refine wpQuiet_nil ?_
      intro KK hKK
      rw[if_pos (by rfl)]
      go_wp2_with fail
      refine hKK _ _ ⟨⟨(wz.alloc _).drew,HQ1.out _⟩,rfl⟩ (fun x=>∃y:Calm.OnB Q wz,x=y.1) (fun _ h=>h) ⟨⟨(wz.alloc _).drew,HQ1.out _⟩,rfl⟩ ?_
      refine wpQuiet_nil ?_
      intro KK hKK
      rw[if_pos (by rfl)]
      obtain⟨wy,hwy⟩:∃x,x=(wz.alloc (.cells #[.int .i64 lf,.slice Av acc.length cv,.int .i64 z2] 45)).drew:=⟨_,rfl⟩
      rw[←hwy]
      have A0:Hid (WRaw wy B w.heap.size R (wC vT' vN' (.slice AR2 rs.length cR2) lv) vT' vN' (.slice AR2 rs.length cR2) ts' ns rs):=aA (by rw[hwy];exact(HFB.out.alloc (.cells #[.int .i64 lf,.slice Av acc.length cv,.int .i64 z2] 45)).drew9)
      have HWY:Hid (Below B w wy):=aA (by rw[hwy];exact aB (HPZ.out.w.alloc (Nat.le_trans hB HPZ.out.w.size) _) 1)
      have HKY:Hid (KpT w wy):=aA (by rw[hwy];exact HPZ.out.k.trans (KpT.below (aB ((Below.refl _ _).alloc (Nat.le_refl _) _) 1)))
      have HQY:Hid (wy.heap[Q]?=wz.heap[Q]?):=aA (by rw[hwy];exact HQ1.out _)
      have HZC:Hid (∀j u,(rlC (⟨lf,acc,z2⟩,Av,cv))[j]?=some u→wy.cell? ⟨wz.heap.size,j,none⟩=some u):=aA (fun j u hj=>by rw[hwy];exact(aH wz (rlC (⟨lf,acc,z2⟩,Av,cv)) 45 j).trans hj)
      have HRW2:Hid (bP wy B wy.heap.size Av acc):=aA (by
       rw[hwy]
       exact(HROW.out.2.2.grown (w':=(wz.alloc (.cells #[.int .i64 lf,.slice Av acc.length cv,.int .i64 z2] 45)).drew) (row:=none) ((World.grownBy_alloc wz (.cells #[.int .i64 lf,.slice Av acc.length cv,.int .i64 z2] 45) none).trans (aE _ none)) (fun g e=>by cases e)).more (by show wz.heap.size≤(wz.alloc _).heap.size;simp))
      have HSW:Hid (w.heap.size≤wy.heap.size):=aA HWY.out.size
      clear hwy
      refine zal (.tmp 102) (.tmp 104) _ rfl Tryz.underlying24 B w.heap.size _ rs rfl A0.out.r _ _ (⟨lf,acc,z2⟩,Av,cv) rfl HZC.out ⟨HROW.out.1,HROW.out.2.1,HRW2.out⟩ (by omega) (Nat.le_trans hB HSW.out) HSW.out ?_
      intro v8 w8 ho8 hg8
      have A1:=aA ((A0.out.more (Nat.le_trans HSW.out hg8.size)).r_put ho8 hg8)
      obtain⟨A8,c8,rfl,_,_⟩:=aM ho8
      have HQ8:Hid (w8.heap[Q]?=wz.heap[Q]?):=aA ((hg8.block Q (by have:=(Array.getElem?_eq_some_iff.1 (HQY.out.trans HPZ.out.qb)).1;exact this) (fun e=>by
       obtain⟨_,_,_,h3,_⟩:=A0.out.r
       have:=h3 _ e.symm
       have:=HPZ.out.q
       omega)).trans HQY.out)
      have HK8:Hid (KpA w w8):=aA (HKY.out.a.trans (by obtain⟨_,_,h2,_⟩:=A0.out.r;exact KpA.own h2 hg8 (.inr (.inr rfl))))
      have HW8:Hid (Below B w w8):=aA (HWY.out.grown hg8 (Nat.le_trans hB HSW.out) (fun k e=>by obtain⟨_,_,h2,_⟩:=A0.out.r;exact(aF h2 e).1))
      obtain⟨n8,hn8⟩:∃n,n=(rs++[(⟨lf,acc,z2⟩:Gm.Rl)]).length:=⟨_,rfl⟩
      have c28:w8.cell? ⟨R,2,none⟩=some (.slice AR2 rs.length cR2):=(A1.out.at 2).1
      have f28:=(A1.out.at 2).2.1
      have hR8:=(A1.out.at 2).2.2
      rw[←hn8]at A1 ⊢
      clear ho8 hg8 A0 hn8
      refine hKK _ _ ⟨⟨w8,HQ8.out⟩,rfl⟩ (fun x=>∃y:Calm.OnB Q wz,x=y.1) (fun _ h=>h) ⟨⟨w8,HQ8.out⟩,rfl⟩ ?_
      go_frame
      repeat (go_big_quiet_step (fail))
      refine wpQuiet_nil ?_
      intro KK hKK
      rw[if_pos (by rfl)]
      go_wp2_with fail
      have HQ9:=aA (fun u=>(Below.heap_setCell w8 ⟨R,2,none⟩ u Q (by simp only;have:=HPZ.out.q;omega)).trans HQ8.out)
      refine hKK _ _ ⟨⟨w8.setCell ⟨R,2,none⟩ _,HQ9.out _⟩,rfl⟩ (fun x=>∃y:Calm.OnB Q wz,x=y.1) (fun _ h=>h) ⟨⟨w8.setCell ⟨R,2,none⟩ _,HQ9.out _⟩,rfl⟩ ?_
      refine wpQuiet_nil ?_
      clear hKK
      go_wp2
      go_end0
      refine⟨rfl,⟨?_,Fit.more HP2.out.f ⟨HLI.out,HZ2.out,HIN.out.1⟩,HPZ.out.t⟩,HW8.out.setCell A1.out.hR _,HK8.out.trans (KpT.set A1.out 2 _).a⟩
      rw[aT]
      exact⟨vT',vN',_,A1.out.set 2 _⟩
     ·intro KK hKK
      rw[if_pos (by rfl)]
      go_wp2_with fail
      refine hKK _ _ ⟨⟨(wz.alloc _).drew,HQ1.out _⟩,rfl⟩ (fun x=>∃y:Calm.OnB Q wz,x=y.1) (fun _ h=>h) ⟨⟨(wz.alloc _).drew,HQ1.out _⟩,rfl⟩ ?_
      refine wpQuiet_nil ?_
      intro KK hKK
      rw[if_pos (by rfl)]
      go_wp2_with fail
      refine hKK _ _ ⟨⟨(wz.alloc _).drew,HQ1.out _⟩,rfl⟩ (fun x=>∃y:Calm.OnB Q wz,x=y.1) (fun _ h=>h) ⟨⟨(wz.alloc _).drew,HQ1.out _⟩,rfl⟩ ?_
      refine wpQuiet_nil ?_
      intro KK hKK
      rw[if_pos (by rfl)]
      obtain⟨wy,hwy⟩:∃x,x=(wz.alloc (.cells #[.int .i64 lf,.slice Av acc.length cv,.int .i64 z2] 45)).drew:=⟨_,rfl⟩
      rw[←hwy]
      have A0:Hid (WRaw wy B w.heap.size R (wC vT' vN' (.slice AR2 rs.length cR2) lv) vT' vN' (.slice AR2 rs.length cR2) ts' ns rs):=aA (by rw[hwy];exact(HFB.out.alloc (.cells #[.int .i64 lf,.slice Av acc.length cv,.int .i64 z2] 45)).drew9)
      have HWY:Hid (Below B w wy):=aA (by rw[hwy];exact aB (HPZ.out.w.alloc (Nat.le_trans hB HPZ.out.w.size) _) 1)
      have HKY:Hid (KpT w wy):=aA (by rw[hwy];exact HPZ.out.k.trans (KpT.below (aB ((Below.refl _ _).alloc (Nat.le_refl _) _) 1)))
      have HQY:Hid (wy.heap[Q]?=wz.heap[Q]?):=aA (by rw[hwy];exact HQ1.out _)
      have HZC:Hid (∀j u,(rlC (⟨lf,acc,z2⟩,Av,cv))[j]?=some u→wy.cell? ⟨wz.heap.size,j,none⟩=some u):=aA (fun j u hj=>by rw[hwy];exact(aH wz (rlC (⟨lf,acc,z2⟩,Av,cv)) 45 j).trans hj)
      have HRW2:Hid (bP wy B wy.heap.size Av acc):=aA (by
       rw[hwy]
       exact(HROW.out.2.2.grown (w':=(wz.alloc (.cells #[.int .i64 lf,.slice Av acc.length cv,.int .i64 z2] 45)).drew) (row:=none) ((World.grownBy_alloc wz (.cells #[.int .i64 lf,.slice Av acc.length cv,.int .i64 z2] 45) none).trans (aE _ none)) (fun g e=>by cases e)).more (by show wz.heap.size≤(wz.alloc _).heap.size;simp))
      have HSW:Hid (w.heap.size≤wy.heap.size):=aA HWY.out.size
      clear hwy
      refine zal (.tmp 102) (.tmp 104) _ rfl Tryz.underlying24 B w.heap.size _ rs rfl A0.out.r _ _ (⟨lf,acc,z2⟩,Av,cv) rfl HZC.out ⟨HROW.out.1,HROW.out.2.1,HRW2.out⟩ (by omega) (Nat.le_trans hB HSW.out) HSW.out ?_
      intro v8 w8 ho8 hg8
      have A1:=aA ((A0.out.more (Nat.le_trans HSW.out hg8.size)).r_put ho8 hg8)
      obtain⟨A8,c8,rfl,_,_⟩:=aM ho8
      have HQ8:Hid (w8.heap[Q]?=wz.heap[Q]?):=aA ((hg8.block Q (by have:=(Array.getElem?_eq_some_iff.1 (HQY.out.trans HPZ.out.qb)).1;exact this) (fun e=>by
       obtain⟨_,_,_,h3,_⟩:=A0.out.r
       have:=h3 _ e.symm
       have:=HPZ.out.q
       omega)).trans HQY.out)
      have HK8:Hid (KpA w w8):=aA (HKY.out.a.trans (by obtain⟨_,_,h2,_⟩:=A0.out.r;exact KpA.own h2 hg8 (.inr (.inr rfl))))
      have HW8:Hid (Below B w w8):=aA (HWY.out.grown hg8 (Nat.le_trans hB HSW.out) (fun k e=>by obtain⟨_,_,h2,_⟩:=A0.out.r;exact(aF h2 e).1))
      obtain⟨n8,hn8⟩:∃n,n=(rs++[(⟨lf,acc,z2⟩:Gm.Rl)]).length:=⟨_,rfl⟩
      have c28:w8.cell? ⟨R,2,none⟩=some (.slice AR2 rs.length cR2):=(A1.out.at 2).1
      have f28:=(A1.out.at 2).2.1
      have hR8:=(A1.out.at 2).2.2
      rw[←hn8]at A1 ⊢
      clear ho8 hg8 A0 hn8
      refine hKK _ _ ⟨⟨w8,HQ8.out⟩,rfl⟩ (fun x=>∃y:Calm.OnB Q wz,x=y.1) (fun _ h=>h) ⟨⟨w8,HQ8.out⟩,rfl⟩ ?_
      go_frame
      repeat (go_big_quiet_step (fail))
      refine wpQuiet_nil ?_
      intro KK hKK
      rw[if_pos (by rfl)]
      go_wp2_with fail
      have HQ9:=aA (fun u=>(Below.heap_setCell w8 ⟨R,2,none⟩ u Q (by simp only;have:=HPZ.out.q;omega)).trans HQ8.out)
      refine hKK _ _ ⟨⟨w8.setCell ⟨R,2,none⟩ _,HQ9.out _⟩,rfl⟩ (fun x=>∃y:Calm.OnB Q wz,x=y.1) (fun _ h=>h) ⟨⟨w8.setCell ⟨R,2,none⟩ _,HQ9.out _⟩,rfl⟩ ?_
      refine wpQuiet_nil ?_
      clear hKK
      go_wp2
      go_end0
      refine⟨rfl,⟨?_,Fit.more HP2.out.f ⟨HLI.out,HZ2.out,HIN.out.1⟩,HPZ.out.t⟩,HW8.out.setCell A1.out.hR _,HK8.out.trans (KpT.set A1.out 2 _).a⟩
      rw[aT]
      exact⟨vT',vN',_,A1.out.set 2 _⟩
 ·intro KK hKK
  rw[if_pos (by rfl)]
  go_wp2_with fail
  refine hKK _ _ ⟨⟨_,HDb.out _⟩,rfl⟩ (fun x=>∃y:Calm.On w1.heap.size w1,x=y.1) (fun _ h=>h) ⟨⟨_,HDb.out _⟩,rfl⟩ ?_
  refine wpQuiet_nil ?_
  intro KK hKK
  rw[if_pos (by rfl)]
  go_wp2_with fail
  have HBz:Hid (Below w1.heap.size w1 (w1.alloc (.cells #[.int .i64 0,.slice none 0 0,.int .i64 0] 45)).drew):=aA (aB ((Below.refl _ w1).alloc (Nat.le_refl _) _) 1)
  refine(HNO.out _ _ (HQw1.out.below HBz.out) (by have:=HBz.out.size;omega)).mono ?_;rintro _ w2 ⟨rfl,hb2⟩
  have HB2:=aA (HBz.out.trans (hb2.mono HBz.out.size))
  have HZ2:Hid (w2.heap[w1.heap.size]?=some (.cells #[.int .i64 0,.slice none 0 0,.int .i64 0] 45 (0,0))):=aA ((hb2.block w1.heap.size (by show w1.heap.size<(w1.alloc _).heap.size;simp)).trans (heap_alloc_new w1 _))
  have hz2:w1.heap.size<w2.heap.size:=(Array.getElem?_eq_some_iff.1 HZ2.out).1
  clear hb2
  go_wp2_with fail
  refine hKK _ _ ⟨⟨w2,HB2.out⟩,rfl⟩ (fun x=>∃y:Calm.On w1.heap.size w1,x=y.1) (fun _ h=>h) ⟨⟨w2,HB2.out⟩,rfl⟩ ?_
  repeat (go_big_quiet_step (fail))
  refine wpQuiet_nil ?_
  intro KK hKK
  rw[if_pos (by rfl)]
  obtain⟨Q,hQ⟩:∃x,x=w.heap.size+1:=⟨_,rfl⟩
  rw[←hQ]
  have hQ1:w1.heap.size=Q:=by omega
  rw[hQ1]at HZ2 HB2
  have HB3:=aA (fun u0 u1 u2=>((HB2.out.setCell (p:=⟨Q,0,none⟩) (Nat.le_refl _) u0).setCell (p:=⟨Q,1,none⟩) (Nat.le_refl _) u1).setCell (p:=⟨Q,2,none⟩) (Nat.le_refl _) u2)
  have HQS:Hid (w.heap.size<Q∧w1.heap.size=Q):=aA (by omega)
  have z0:=frozen_of_row w2 _ 0 _ _ HZ2.out
  have z1:=frozen_of_row w2 _ 1 _ _ HZ2.out
  have z2:=frozen_of_row w2 _ 2 _ _ HZ2.out
  have y0:w2.cell? ⟨Q,0,none⟩=some (.int .i64 0):=by rw[cell_of_row w2 _ 0 _ _ _ HZ2.out];rfl
  have y1:w2.cell? ⟨Q,1,none⟩=some (.slice none 0 0):=by rw[cell_of_row w2 _ 1 _ _ _ HZ2.out];rfl
  have y2:w2.cell? ⟨Q,2,none⟩=some (.int .i64 0):=by rw[cell_of_row w2 _ 2 _ _ _ HZ2.out];rfl
  have hz2:Q<w2.heap.size:=(Array.getElem?_eq_some_iff.1 HZ2.out).1
  clear hQ hQ1 hs1 hd1
  go_wp2_with fail
  refine hKK _ _ ⟨⟨_,by rw[HQS.out.2];exact HB3.out _ _ _⟩,rfl⟩ (fun x=>∃y:Calm.On w1.heap.size w1,x=y.1) (fun _ h=>h) ⟨⟨_,by rw[HQS.out.2];exact HB3.out _ _ _⟩,rfl⟩ ?_
  refine wpQuiet_nil ?_
  clear hKK RB
  obtain⟨wq,hwq⟩:∃x,x=((w2.setCell ⟨Q,0,none⟩ (.int .i64 lf)).setCell ⟨Q,1,none⟩ (.slice none 0 0)).setCell ⟨Q,2,none⟩ (.int .i64 (-1)):=⟨_,rfl⟩
  rw[←hwq]
  have HPX:Hid (PrJ w wq B R Q ns rs lv ts #[.string s0,.complex .f64 X0 Y0,.slice A pr.r.length c,.string (soS pr.p),.complex .f64 (soX L pr.p) (soY L pr.p)] lf (.slice none 0 0) [] (-1)):=aA (by
   have hb1:Below w1.heap.size w1 wq:=by rw[hwq,HQS.out.2];exact HB3.out _ _ _
   have hbw:Below w.heap.size w wq:=HW1.out.trans (hb1.mono HW1.out.size)
   have hd1:w.heap.size<w1.heap.size:=by have:=HQS.out;omega
   exact⟨⟨_,_,_,HQw1.out.below hb1⟩,HF.out,h24,hbw.mono hB,KpT.below hbw,HQS.out.1,(hb1.block w.heap.size hd1).trans HP1.out,by rw[hwq];exact heap_setCell_same _ _ 2 _ _ _ (heap_setCell_same _ _ 1 _ _ _ (heap_setCell_same _ _ 0 _ _ _ HZ2.out)),za8 _ _⟩)
  clear hwq HB2 HB3 hz2 HNO HQw1 HP1 HW1 HRB HDa HDb hR1 HRW z0 z1 z2 y0 y1 y2 HZ2 HQS HBz
  have HEX:=aA (Array.getElem?_eq_some_iff.1 HPX.out.pb).1
  obtain⟨vTq,vNq,vRq,hwq⟩:=HPX.out.b
  obtain⟨_,_,⟨ARq,cRq,rfl⟩⟩:=zai hwq
  obtain⟨k2,_,hRq⟩:=hwq.at 2
  simp only[wC,List.getElem?_toArray,List.getElem?_cons_zero,List.getElem?_cons_succ]at k2
  have e40:((rs.length:Int)==40)=false:=beq_eq_false_iff_ne.2 (by omega)
  clear hwq
  go_wp2
  clear k2 hRq e40
  go_loopw [5] (fun vi wr=>∃(i:Nat) (tk:List Gm.Tm) (acc:List Int) (p:Int) (v:Value),i≤pr.r.length∧vi=.int .i64 i∧acc.length=i∧Hid (Gm.rights ns tk acc p (pr.r.drop i)=.ok (tz,az,pz))∧Hid ((∀z∈acc,Gm.In z)∧Gm.In p)∧Hid (PrJ w wr B R Q ns rs lv tk #[.string s0,.complex .f64 X0 Y0,.slice A pr.r.length c,.string (soS pr.p),.complex .f64 (soX L pr.p) (soY L pr.p)] lf v acc p)) (fun vi _=>pr.r.length-(intOf vi).toNat)
  case atStart=>exact⟨0,ts,[],-1,.slice none 0 0,Nat.zero_le _,rfl,rfl,HRT,aA ⟨by simp,by unfold Gm.In;omega⟩,HPX⟩
  case round =>
   clear HPX HEX
   obtain⟨i,tk,acc,p,v,hi,rfl,hai,HE,HIN,HP⟩:=hrel
   have HAI:=aA hai
   have p2:wr.cell? ⟨w.heap.size,2,none⟩=some (.slice A pr.r.length c):=cell_of_row wr _ 2 _ _ _ HP.out.pb
   have hPs:=(Array.getElem?_eq_some_iff.1 HP.out.pb).1
   obtain⟨vTr,vNr,vRr,hwr⟩:=HP.out.b
   have f10:=(hwr.at 10).1
   have hRr:=hwr.lt
   simp only[wC,List.getElem?_toArray,List.getElem?_cons_zero,List.getElem?_cons_succ]at f10
   clear hwr hai
   by_cases hlt:i<pr.r.length
   ·obtain⟨g,o,rfl,hgB,hc⟩:=HR.out (by omega)
    have k0:=(HP.out.w.cell (p:=⟨g,o+i*2,none⟩) hgB).trans (hc i hlt).1
    have k1:=(HP.out.w.cell (p:=⟨g,o+i*2+1,none⟩) hgB).trans (hc i hlt).2
    have hBs:=HP.out.w.size
    have hgs:g<wr.heap.size:=by omega
    obtain⟨hx1,hx2,hx3⟩:=HDX.out i hlt
    have hE:=HE.out
    rw[zaR hlt]at hE
    have h6:acc.length≠6:=fun q=>by rw[if_pos q]at hE;cases hE
    rw[if_neg h6]at hE
    obtain⟨⟨t2,zz⟩,hs,hE2⟩:=Gm.R.bind_eq hE
    simp only at hE2
    have HE2:=aA hE2
    obtain⟨hstep,hfit2⟩:=zd0 hs hx1 HP.out.f
    obtain⟨hzin,ht2⟩:=zg7 hs HP.out.t h16
    have HF2:=aA (And.intro hfit2 (And.intro ht2 hzin))
    have e6:((i:Int)==6)=false:=beq_eq_false_iff_ne.2 (by have:=HAI.out;omega)
    have HNM:=aA (fun(y:World)=>zay pr.r[i].t hx1 y)
    rw[hx2]at HNM
    have HSY:=aA (fun(y:World) (h:Wk y B w.heap.size R tk ns rs lv) (hy:w.heap.size≤y.heap.size)=>zdo L B w.heap.size R tk t2 ns rs lv zz pr.r[i] true y h HP.out.f hx1 hx3 hy (Nat.le_trans hB hy) hstep HP.out.t h16)
    unfold bK at HSY
    clear hc hE hE2 hs hstep hfit2 hzin ht2 hx1 hx2 hx3 h6
    unfold rfX rfY at k1
    generalize K.str pr.r[i].t=sx at *
    generalize Fl.fl (Pl.pos (L.take pr.r[i].o)).1=X at *
    generalize Fl.fl (Pl.pos (L.take pr.r[i].o)).2=Y at *
    have HPA:=aA (HP.out.alloc (.cells #[.string sx,.complex .f64 X Y] 90) hB)
    have HCR:=aA (heap_alloc_new wr (.cells #[.string sx,.complex .f64 X Y] 90))
    have HC:=aA (HSY.out _ HPA.out.b HPA.out.w.size)
    go_wp2_with fail
    refine(HNM.out _).mono ?_;rintro _ _ ⟨rfl,rfl⟩
    go_wp2_with fail
    refine HC.out.mono ?_;rintro _ w2 ⟨rfl,hb2,hw2,hk2⟩
    have HP2:=aA (HPA.out.call hb2 hw2 hk2 HF2.out.1 HF2.out.2.1)
    obtain⟨Av,nv,cv,hvv⟩:=zab HP2.out.o
    subst hvv
    have q1:w2.cell? ⟨Q,1,none⟩=some (.slice Av nv cv):=cell_of_row w2 _ 1 _ _ _ HP2.out.qb
    have hQs:=(Array.getElem?_eq_some_iff.1 HP2.out.qb).1
    have HP3:=aA (HP2.out.alloc (.cells #[.int .i64 zz] 3) hB)
    have HS2:Hid (w.heap.size≤w2.heap.size):=aA HP2.out.w.size
    have hil:acc.length≤1000000000000:=by have:=HAI.out;omega
    clear hb2 hw2 hk2 p2 f10 k0 k1 HC HSY HNM
    by_cases hzp:0≤zz
    ·have HX:Hid (Gm.rights ns t2 (acc++[zz]) zz (pr.r.drop (i+1))=.ok (tz,az,pz)):=aA (by have h:=HE2.out;rw[if_pos hzp]at h;exact h)
     have e:decide (0≤zz)=true:=decide_eq_true hzp
     go_wp2_with (refine zbO rfl (.tmp 63) (.tmp 65) _ rfl Tryz.underlying43 w.heap.size _ acc rfl HP3.out.o _ _ zz rfl (aH w2 [.int .i64 zz] 3 0) hil (by have:=HS2.out;simp;omega) ?_;intro v4 w4 ho4 hg4;obtain⟨A4,n4,c4,rfl⟩:=zab ho4;have happ:=aA (HP3.out.app ho4 hg4 hB);have q41:w4.cell? ⟨Q,1,none⟩=some (.slice Av nv cv):=cell_of_row w4 _ 1 _ _ _ happ.out.1;have q42:w4.cell? ⟨Q,2,none⟩=some (.int .i64 p):=cell_of_row w4 _ 2 _ _ _ happ.out.1;have f41:=frozen_of_row w4 _ 1 _ _ happ.out.1;have f42:=frozen_of_row w4 _ 2 _ _ happ.out.1;have hQ4:=(Array.getElem?_eq_some_iff.1 happ.out.1).1;clear ho4 hg4)
     go_roundw
     case rel=>exact⟨i+1,t2,acc++[zz],zz,.slice A4 n4 c4,hlt,by go_num,by rw[List.length_append,List.length_singleton,HAI.out],HX,aA ⟨fun z hz=>by rcases List.mem_append.1 hz with q|q;exact HIN.out.1 z q;rw[List.mem_singleton.1 q];exact HF2.out.2.2,HF2.out.2.2⟩,aA (happ.out.2.setQ 2 (.int .i64 zz) rfl (happ.out.2.o.set_away happ.out.2.qb 2 _) hB)⟩
     case measure=>simp[intOf];omega
    ·have HX:Hid (Gm.rights ns t2 (acc++[zz]) p (pr.r.drop (i+1))=.ok (tz,az,pz)):=aA (by have h:=HE2.out;rw[if_neg hzp]at h;exact h)
     have e:decide (0≤zz)=false:=decide_eq_false hzp
     go_wp2_with (refine zbO rfl (.tmp 63) (.tmp 65) _ rfl Tryz.underlying43 w.heap.size _ acc rfl HP3.out.o _ _ zz rfl (aH w2 [.int .i64 zz] 3 0) hil (by have:=HS2.out;simp;omega) ?_;intro v4 w4 ho4 hg4;obtain⟨A4,n4,c4,rfl⟩:=zab ho4;have happ:=aA (HP3.out.app ho4 hg4 hB);have q41:w4.cell? ⟨Q,1,none⟩=some (.slice Av nv cv):=cell_of_row w4 _ 1 _ _ _ happ.out.1;have q42:w4.cell? ⟨Q,2,none⟩=some (.int .i64 p):=cell_of_row w4 _ 2 _ _ _ happ.out.1;have f41:=frozen_of_row w4 _ 1 _ _ happ.out.1;have f42:=frozen_of_row w4 _ 2 _ _ happ.out.1;have hQ4:=(Array.getElem?_eq_some_iff.1 happ.out.1).1;clear ho4 hg4)
     go_roundw
     case rel=>exact⟨i+1,t2,acc++[zz],p,.slice A4 n4 c4,hlt,by go_num,by rw[List.length_append,List.length_singleton,HAI.out],HX,aA ⟨fun z hz=>by rcases List.mem_append.1 hz with q|q;exact HIN.out.1 z q;rw[List.mem_singleton.1 q];exact HF2.out.2.2,HIN.out.2⟩,aA happ.out.2⟩
     case measure=>simp[intOf];omega
   ·obtain rfl:i=pr.r.length:=by omega
    have hE:=HE.out
    rw[zbg (Nat.le_refl _)]at hE
    injection hE with hE
    injection hE with e1 hE
    injection hE with e2 e3
    subst e1
    subst e2
    subst e3
    have p3:wr.cell? ⟨w.heap.size,3,none⟩=some (.string (soS pr.p)):=cell_of_row wr _ 3 _ _ _ HP.out.pb
    have p4:wr.cell? ⟨w.heap.size,4,none⟩=some (.complex .f64 (soX L pr.p) (soY L pr.p)):=cell_of_row wr _ 4 _ _ _ HP.out.pb
    rcases HLAST.out with⟨hpn,e1,e2⟩|⟨x,z2,hps,hsp,e2⟩
    ·subst e1
     subst e2
     replace p3:wr.cell? ⟨w.heap.size,3,none⟩=some (.string ⟨#[]⟩):=by rw[p3,hpn];rfl
     clear p4
     go_wp2_with fail
     obtain⟨wz,hwz⟩:∃x,x=wr:=⟨_,rfl⟩
     rw[←hwz]
     have HPZ:Hid (PrJ w wz B R Q ns rs lv ts' #[.string s0,.complex .f64 X0 Y0,.slice A pr.r.length c,.string (soS pr.p),.complex .f64 (soX L pr.p) (soY L pr.p)] lf v acc p):=aA (by rw[hwz];exact HP.out)
     clear hwz p3
     obtain⟨vT',vN',vR',hfin⟩:=HPZ.out.b
     have HFB:=aA hfin
     obtain⟨_,_,⟨AR2,cR2,hvR⟩⟩:=zai hfin
     subst hvR
     obtain⟨Av,cv,hvv,hv1,hv2,hrow⟩:=HPZ.out.o.row hB
     subst hvv
     have c2:wz.cell? ⟨R,2,none⟩=some (.slice AR2 rs.length cR2):=(hfin.at 2).1
     have hRs:=(hfin.at 2).2.2
     have hQs:=(Array.getElem?_eq_some_iff.1 HPZ.out.qb).1
     have HROW:=aA (And.intro hv1 (And.intro hv2 hrow))
     clear hfin hrow hv1 hv2
     have E0:∀y:Calm.OnB Q wz,y.1.cell? ⟨Q,0,none⟩=some (.int .i64 lf):=fun y=>cell_of_row y.1 _ 0 _ _ _ (y.2.trans HPZ.out.qb)
     have E1:∀y:Calm.OnB Q wz,y.1.cell? ⟨Q,1,none⟩=some (.slice Av acc.length cv):=fun y=>cell_of_row y.1 _ 1 _ _ _ (y.2.trans HPZ.out.qb)
     have E2:∀y:Calm.OnB Q wz,y.1.cell? ⟨Q,2,none⟩=some (.int .i64 p):=fun y=>cell_of_row y.1 _ 2 _ _ _ (y.2.trans HPZ.out.qb)
     refine CalmN.region_tree (fun x=>∃y:Calm.OnB Q wz,x=y.1) (.two [0,1,2,3,4,6] 5 (.one [] 7 (.one [] 8 (.one [9,10,11] 12 (.fin [])))) 7 (.one [] 5 (.one [] 8 (.one [9,10,11] 12 (.fin []))))) (by kernel_rfl) (by kernel_rfl) (fun _ _ d _ _ h=>by cases d <;> exact h) ⟨⟨wz.drew,rfl⟩,rfl⟩ ?_
     simp only[CalmN.wpT,CalmN.wpSt,CalmN.pickOps,List.getElem?_toArray,List.getElem?_cons_zero,List.getElem?_cons_succ]
     repeat (go_big_quiet_step (fail))
     refine wpQuiet_nil ?_
     clear E0 E1 E2
     have HQ1:=aA (fun o=>(Below.heap_alloc wz o Q hQs))
     refine⟨?_,?_⟩
     ·intro KK hKK
      rw[if_pos (by rfl)]
      go_wp2_with fail
      refine hKK _ _ ⟨⟨wz.drew,rfl⟩,rfl⟩ (fun x=>∃y:Calm.OnB Q wz,x=y.1) (fun _ h=>h) ⟨⟨wz.drew,rfl⟩,rfl⟩ ?_
      refine wpQuiet_nil ?_
      intro KK hKK
      rw[if_pos (by rfl)]
      go_wp2_with fail
      refine hKK _ _ ⟨⟨(wz.alloc _).drew,HQ1.out _⟩,rfl⟩ (fun x=>∃y:Calm.OnB Q wz,x=y.1) (fun _ h=>h) ⟨⟨(wz.alloc _).drew,HQ1.out _⟩,rfl⟩ ?_
      refine wpQuiet_nil ?_
      intro KK hKK
      rw[if_pos (by rfl)]
      obtain⟨wy,hwy⟩:∃x,x=(wz.alloc (.cells #[.int .i64 lf,.slice Av acc.length cv,.int .i64 p] 45)).drew:=⟨_,rfl⟩
      rw[←hwy]
      have A0:Hid (WRaw wy B w.heap.size R (wC vT' vN' (.slice AR2 rs.length cR2) lv) vT' vN' (.slice AR2 rs.length cR2) ts' ns rs):=aA (by rw[hwy];exact(HFB.out.alloc (.cells #[.int .i64 lf,.slice Av acc.length cv,.int .i64 p] 45)).drew9)
      have HWY:Hid (Below B w wy):=aA (by rw[hwy];exact aB (HPZ.out.w.alloc (Nat.le_trans hB HPZ.out.w.size) _) 1)
      have HKY:Hid (KpT w wy):=aA (by rw[hwy];exact HPZ.out.k.trans (KpT.below (aB ((Below.refl _ _).alloc (Nat.le_refl _) _) 1)))
      have HQY:Hid (wy.heap[Q]?=wz.heap[Q]?):=aA (by rw[hwy];exact HQ1.out _)
      have HZC:Hid (∀j u,(rlC (⟨lf,acc,p⟩,Av,cv))[j]?=some u→wy.cell? ⟨wz.heap.size,j,none⟩=some u):=aA (fun j u hj=>by rw[hwy];exact(aH wz (rlC (⟨lf,acc,p⟩,Av,cv)) 45 j).trans hj)
      have HRW2:Hid (bP wy B wy.heap.size Av acc):=aA (by
       rw[hwy]
       exact(HROW.out.2.2.grown (w':=(wz.alloc (.cells #[.int .i64 lf,.slice Av acc.length cv,.int .i64 p] 45)).drew) (row:=none) ((World.grownBy_alloc wz (.cells #[.int .i64 lf,.slice Av acc.length cv,.int .i64 p] 45) none).trans (aE _ none)) (fun g e=>by cases e)).more (by show wz.heap.size≤(wz.alloc _).heap.size;simp))
      have HSW:Hid (w.heap.size≤wy.heap.size):=aA HWY.out.size
      clear hwy
      refine zal (.tmp 102) (.tmp 104) _ rfl Tryz.underlying24 B w.heap.size _ rs rfl A0.out.r _ _ (⟨lf,acc,p⟩,Av,cv) rfl HZC.out ⟨HROW.out.1,HROW.out.2.1,HRW2.out⟩ (by omega) (Nat.le_trans hB HSW.out) HSW.out ?_
      intro v8 w8 ho8 hg8
      have A1:=aA ((A0.out.more (Nat.le_trans HSW.out hg8.size)).r_put ho8 hg8)
      obtain⟨A8,c8,rfl,_,_⟩:=aM ho8
      have HQ8:Hid (w8.heap[Q]?=wz.heap[Q]?):=aA ((hg8.block Q (by have:=(Array.getElem?_eq_some_iff.1 (HQY.out.trans HPZ.out.qb)).1;exact this) (fun e=>by
       obtain⟨_,_,_,h3,_⟩:=A0.out.r
       have:=h3 _ e.symm
       have:=HPZ.out.q
       omega)).trans HQY.out)
      have HK8:Hid (KpA w w8):=aA (HKY.out.a.trans (by obtain⟨_,_,h2,_⟩:=A0.out.r;exact KpA.own h2 hg8 (.inr (.inr rfl))))
      have HW8:Hid (Below B w w8):=aA (HWY.out.grown hg8 (Nat.le_trans hB HSW.out) (fun k e=>by obtain⟨_,_,h2,_⟩:=A0.out.r;exact(aF h2 e).1))
      obtain⟨n8,hn8⟩:∃n,n=(rs++[(⟨lf,acc,p⟩:Gm.Rl)]).length:=⟨_,rfl⟩
      have c28:w8.cell? ⟨R,2,none⟩=some (.slice AR2 rs.length cR2):=(A1.out.at 2).1
      have f28:=(A1.out.at 2).2.1
      have hR8:=(A1.out.at 2).2.2
      rw[←hn8]at A1 ⊢
      clear ho8 hg8 A0 hn8
      refine hKK _ _ ⟨⟨w8,HQ8.out⟩,rfl⟩ (fun x=>∃y:Calm.OnB Q wz,x=y.1) (fun _ h=>h) ⟨⟨w8,HQ8.out⟩,rfl⟩ ?_
      go_frame
      repeat (go_big_quiet_step (fail))
      refine wpQuiet_nil ?_
      intro KK hKK
      rw[if_pos (by rfl)]
      go_wp2_with fail
      have HQ9:=aA (fun u=>(Below.heap_setCell w8 ⟨R,2,none⟩ u Q (by simp only;have:=HPZ.out.q;omega)).trans HQ8.out)
      refine hKK _ _ ⟨⟨w8.setCell ⟨R,2,none⟩ _,HQ9.out _⟩,rfl⟩ (fun x=>∃y:Calm.OnB Q wz,x=y.1) (fun _ h=>h) ⟨⟨w8.setCell ⟨R,2,none⟩ _,HQ9.out _⟩,rfl⟩ ?_
      refine wpQuiet_nil ?_
      clear hKK
      go_wp2
      go_end0
      refine⟨rfl,⟨?_,Fit.more HP.out.f ⟨HLI.out,HIN.out.2,HIN.out.1⟩,HPZ.out.t⟩,HW8.out.setCell A1.out.hR _,HK8.out.trans (KpT.set A1.out 2 _).a⟩
      rw[aT]
      exact⟨vT',vN',_,A1.out.set 2 _⟩
     ·intro KK hKK
      rw[if_pos (by rfl)]
      go_wp2_with fail
      refine hKK _ _ ⟨⟨(wz.alloc _).drew,HQ1.out _⟩,rfl⟩ (fun x=>∃y:Calm.OnB Q wz,x=y.1) (fun _ h=>h) ⟨⟨(wz.alloc _).drew,HQ1.out _⟩,rfl⟩ ?_
      refine wpQuiet_nil ?_
      intro KK hKK
      rw[if_pos (by rfl)]
      go_wp2_with fail
      refine hKK _ _ ⟨⟨(wz.alloc _).drew,HQ1.out _⟩,rfl⟩ (fun x=>∃y:Calm.OnB Q wz,x=y.1) (fun _ h=>h) ⟨⟨(wz.alloc _).drew,HQ1.out _⟩,rfl⟩ ?_
      refine wpQuiet_nil ?_
      intro KK hKK
      rw[if_pos (by rfl)]
      obtain⟨wy,hwy⟩:∃x,x=(wz.alloc (.cells #[.int .i64 lf,.slice Av acc.length cv,.int .i64 p] 45)).drew:=⟨_,rfl⟩
      rw[←hwy]
      have A0:Hid (WRaw wy B w.heap.size R (wC vT' vN' (.slice AR2 rs.length cR2) lv) vT' vN' (.slice AR2 rs.length cR2) ts' ns rs):=aA (by rw[hwy];exact(HFB.out.alloc (.cells #[.int .i64 lf,.slice Av acc.length cv,.int .i64 p] 45)).drew9)
      have HWY:Hid (Below B w wy):=aA (by rw[hwy];exact aB (HPZ.out.w.alloc (Nat.le_trans hB HPZ.out.w.size) _) 1)
      have HKY:Hid (KpT w wy):=aA (by rw[hwy];exact HPZ.out.k.trans (KpT.below (aB ((Below.refl _ _).alloc (Nat.le_refl _) _) 1)))
      have HQY:Hid (wy.heap[Q]?=wz.heap[Q]?):=aA (by rw[hwy];exact HQ1.out _)
      have HZC:Hid (∀j u,(rlC (⟨lf,acc,p⟩,Av,cv))[j]?=some u→wy.cell? ⟨wz.heap.size,j,none⟩=some u):=aA (fun j u hj=>by rw[hwy];exact(aH wz (rlC (⟨lf,acc,p⟩,Av,cv)) 45 j).trans hj)
      have HRW2:Hid (bP wy B wy.heap.size Av acc):=aA (by
       rw[hwy]
       exact(HROW.out.2.2.grown (w':=(wz.alloc (.cells #[.int .i64 lf,.slice Av acc.length cv,.int .i64 p] 45)).drew) (row:=none) ((World.grownBy_alloc wz (.cells #[.int .i64 lf,.slice Av acc.length cv,.int .i64 p] 45) none).trans (aE _ none)) (fun g e=>by cases e)).more (by show wz.heap.size≤(wz.alloc _).heap.size;simp))
      have HSW:Hid (w.heap.size≤wy.heap.size):=aA HWY.out.size
      clear hwy
      refine zal (.tmp 102) (.tmp 104) _ rfl Tryz.underlying24 B w.heap.size _ rs rfl A0.out.r _ _ (⟨lf,acc,p⟩,Av,cv) rfl HZC.out ⟨HROW.out.1,HROW.out.2.1,HRW2.out⟩ (by omega) (Nat.le_trans hB HSW.out) HSW.out ?_
      intro v8 w8 ho8 hg8
      have A1:=aA ((A0.out.more (Nat.le_trans HSW.out hg8.size)).r_put ho8 hg8)
      obtain⟨A8,c8,rfl,_,_⟩:=aM ho8
      have HQ8:Hid (w8.heap[Q]?=wz.heap[Q]?):=aA ((hg8.block Q (by have:=(Array.getElem?_eq_some_iff.1 (HQY.out.trans HPZ.out.qb)).1;exact this) (fun e=>by
       obtain⟨_,_,_,h3,_⟩:=A0.out.r
       have:=h3 _ e.symm
       have:=HPZ.out.q
       omega)).trans HQY.out)
      have HK8:Hid (KpA w w8):=aA (HKY.out.a.trans (by obtain⟨_,_,h2,_⟩:=A0.out.r;exact KpA.own h2 hg8 (.inr (.inr rfl))))
      have HW8:Hid (Below B w w8):=aA (HWY.out.grown hg8 (Nat.le_trans hB HSW.out) (fun k e=>by obtain⟨_,_,h2,_⟩:=A0.out.r;exact(aF h2 e).1))
      obtain⟨n8,hn8⟩:∃n,n=(rs++[(⟨lf,acc,p⟩:Gm.Rl)]).length:=⟨_,rfl⟩
      have c28:w8.cell? ⟨R,2,none⟩=some (.slice AR2 rs.length cR2):=(A1.out.at 2).1
      have f28:=(A1.out.at 2).2.1
      have hR8:=(A1.out.at 2).2.2
      rw[←hn8]at A1 ⊢
      clear ho8 hg8 A0 hn8
      refine hKK _ _ ⟨⟨w8,HQ8.out⟩,rfl⟩ (fun x=>∃y:Calm.OnB Q wz,x=y.1) (fun _ h=>h) ⟨⟨w8,HQ8.out⟩,rfl⟩ ?_
      go_frame
      repeat (go_big_quiet_step (fail))
      refine wpQuiet_nil ?_
      intro KK hKK
      rw[if_pos (by rfl)]
      go_wp2_with fail
      have HQ9:=aA (fun u=>(Below.heap_setCell w8 ⟨R,2,none⟩ u Q (by simp only;have:=HPZ.out.q;omega)).trans HQ8.out)
      refine hKK _ _ ⟨⟨w8.setCell ⟨R,2,none⟩ _,HQ9.out _⟩,rfl⟩ (fun x=>∃y:Calm.OnB Q wz,x=y.1) (fun _ h=>h) ⟨⟨w8.setCell ⟨R,2,none⟩ _,HQ9.out _⟩,rfl⟩ ?_
      refine wpQuiet_nil ?_
      clear hKK
      go_wp2
      go_end0
      refine⟨rfl,⟨?_,Fit.more HP.out.f ⟨HLI.out,HIN.out.2,HIN.out.1⟩,HPZ.out.t⟩,HW8.out.setCell A1.out.hR _,HK8.out.trans (KpT.set A1.out 2 _).a⟩
      rw[aT]
      exact⟨vT',vN',_,A1.out.set 2 _⟩
    ·subst e2
     obtain⟨hx1,hx2,hx3⟩:=HXP.out x hps
     obtain⟨hstep,hfit2⟩:=zd2 hsp hx1 HP.out.f
     obtain⟨hzin,ht2⟩:=zg9 hsp HP.out.t
     have HZ2:=aA hzin
     have HF2:=aA (And.intro hfit2 ht2)
     have HNM:=aA (fun(y:World)=>zay x.t hx1 y)
     rw[hx2]at HNM
     have HSY:=aA (fun(y:World) (h:Wk y B w.heap.size R tk ns rs lv) (hy:w.heap.size≤y.heap.size)=>zdo L B w.heap.size R tk ts' ns rs lv z2 x false y h HP.out.f hx1 hx3 hy (Nat.le_trans hB hy) hstep HP.out.t h16)
     unfold bK at HSY
     have hne:(K.str x.t).toList.isEmpty=false:=zep hx2
     replace p3:wr.cell? ⟨w.heap.size,3,none⟩=some (.string (K.str x.t)):=by rw[p3,hps];rfl
     replace p4:wr.cell? ⟨w.heap.size,4,none⟩=some (.complex .f64 (Fl.fl (Pl.pos (L.take x.o)).1) (Fl.fl (Pl.pos (L.take x.o)).2)):=by rw[p4,hps];rfl
     have HC:=aA (HSY.out _ HP.out.b HP.out.w.size)
     clear hx1 hx2 hx3 hstep hfit2 hzin ht2 hsp HSY
     generalize K.str x.t=sx at *
     generalize Fl.fl (Pl.pos (L.take x.o)).1=X at *
     generalize Fl.fl (Pl.pos (L.take x.o)).2=Y at *
     go_wp2_with fail
     refine(HNM.out _).mono ?_;rintro _ _ ⟨rfl,rfl⟩
     go_wp2_with fail
     refine HC.out.mono ?_;rintro _ w2 ⟨rfl,hb2,hw2,hk2⟩
     have HP2:=aA (HP.out.call hb2 hw2 hk2 HF2.out.1 HF2.out.2)
     have q2:w2.cell? ⟨Q,2,none⟩=some (.int .i64 p):=cell_of_row w2 _ 2 _ _ _ HP2.out.qb
     have f2:=frozen_of_row w2 _ 2 _ _ HP2.out.qb
     have hQ2:=(Array.getElem?_eq_some_iff.1 HP2.out.qb).1
     clear hb2 hw2 hk2 p3 p4
     go_upto_region 20 with fail
     obtain⟨wz,hwz⟩:∃x,x=w2.setCell ⟨Q,2,none⟩ (.int .i64 z2):=⟨_,rfl⟩
     rw[←hwz]
     have HPZ:Hid (PrJ w wz B R Q ns rs lv ts' #[.string s0,.complex .f64 X0 Y0,.slice A pr.r.length c,.string (soS pr.p),.complex .f64 (soX L pr.p) (soY L pr.p)] lf v acc z2):=aA (by rw[hwz];exact HP2.out.setQ 2 (.int .i64 z2) rfl (HP2.out.o.set_away HP2.out.qb 2 _) hB)
     clear hwz q2 f2 hQ2
     obtain⟨vT',vN',vR',hfin⟩:=HPZ.out.b
     have HFB:=aA hfin
     obtain⟨_,_,⟨AR2,cR2,hvR⟩⟩:=zai hfin
     subst hvR
     obtain⟨Av,cv,hvv,hv1,hv2,hrow⟩:=HPZ.out.o.row hB
     subst hvv
     have c2:wz.cell? ⟨R,2,none⟩=some (.slice AR2 rs.length cR2):=(hfin.at 2).1
     have hRs:=(hfin.at 2).2.2
     have hQs:=(Array.getElem?_eq_some_iff.1 HPZ.out.qb).1
     have HROW:=aA (And.intro hv1 (And.intro hv2 hrow))
     clear hfin hrow hv1 hv2
     have E0:∀y:Calm.OnB Q wz,y.1.cell? ⟨Q,0,none⟩=some (.int .i64 lf):=fun y=>cell_of_row y.1 _ 0 _ _ _ (y.2.trans HPZ.out.qb)
     have E1:∀y:Calm.OnB Q wz,y.1.cell? ⟨Q,1,none⟩=some (.slice Av acc.length cv):=fun y=>cell_of_row y.1 _ 1 _ _ _ (y.2.trans HPZ.out.qb)
     have E2:∀y:Calm.OnB Q wz,y.1.cell? ⟨Q,2,none⟩=some (.int .i64 z2):=fun y=>cell_of_row y.1 _ 2 _ _ _ (y.2.trans HPZ.out.qb)
     refine CalmN.region_tree (fun x=>∃y:Calm.OnB Q wz,x=y.1) (.two [0,1,2,3,4,6] 5 (.one [] 7 (.one [] 8 (.one [9,10,11] 12 (.fin [])))) 7 (.one [] 5 (.one [] 8 (.one [9,10,11] 12 (.fin []))))) (by kernel_rfl) (by kernel_rfl) (fun _ _ d _ _ h=>by cases d <;> exact h) ⟨⟨wz.drew,rfl⟩,rfl⟩ ?_
     simp only[CalmN.wpT,CalmN.wpSt,CalmN.pickOps,List.getElem?_toArray,List.getElem?_cons_zero,List.getElem?_cons_succ]
     repeat (go_big_quiet_step (fail))
     refine wpQuiet_nil ?_
     clear E0 E1 E2
     have HQ1:=aA (fun o=>(Below.heap_alloc wz o Q hQs))
     refine⟨?_,?_⟩
     ·intro KK hKK
      rw[if_pos (by rfl)]
      go_wp2_with fail
      refine hKK _ _ ⟨⟨wz.drew,rfl⟩,rfl⟩ (fun x=>∃y:Calm.OnB Q wz,x=y.1) (fun _ h=>h) ⟨⟨wz.drew,rfl⟩,rfl⟩ ?_
      refine wpQuiet_nil ?_
      intro KK hKK
      rw[if_pos (by rfl)]
      go_wp2_with fail
      refine hKK _ _ ⟨⟨(wz.alloc _).drew,HQ1.out _⟩,rfl⟩ (fun x=>∃y:Calm.OnB Q wz,x=y.1) (fun _ h=>h) ⟨⟨(wz.alloc _).drew,HQ1.out _⟩,rfl⟩ ?_
      refine wpQuiet_nil ?_
      intro KK hKK
      rw[if_pos (by rfl)]
      obtain⟨wy,hwy⟩:∃x,x=(wz.alloc (.cells #[.int .i64 lf,.slice Av acc.length cv,.int .i64 z2] 45)).drew:=⟨_,rfl⟩
      rw[←hwy]
      have A0:Hid (WRaw wy B w.heap.size R (wC vT' vN' (.slice AR2 rs.length cR2) lv) vT' vN' (.slice AR2 rs.length cR2) ts' ns rs):=aA (by rw[hwy];exact(HFB.out.alloc (.cells #[.int .i64 lf,.slice Av acc.length cv,.int .i64 z2] 45)).drew9)
      have HWY:Hid (Below B w wy):=aA (by rw[hwy];exact aB (HPZ.out.w.alloc (Nat.le_trans hB HPZ.out.w.size) _) 1)
      have HKY:Hid (KpT w wy):=aA (by rw[hwy];exact HPZ.out.k.trans (KpT.below (aB ((Below.refl _ _).alloc (Nat.le_refl _) _) 1)))
      have HQY:Hid (wy.heap[Q]?=wz.heap[Q]?):=aA (by rw[hwy];exact HQ1.out _)
      have HZC:Hid (∀j u,(rlC (⟨lf,acc,z2⟩,Av,cv))[j]?=some u→wy.cell? ⟨wz.heap.size,j,none⟩=some u):=aA (fun j u hj=>by rw[hwy];exact(aH wz (rlC (⟨lf,acc,z2⟩,Av,cv)) 45 j).trans hj)
      have HRW2:Hid (bP wy B wy.heap.size Av acc):=aA (by
       rw[hwy]
       exact(HROW.out.2.2.grown (w':=(wz.alloc (.cells #[.int .i64 lf,.slice Av acc.length cv,.int .i64 z2] 45)).drew) (row:=none) ((World.grownBy_alloc wz (.cells #[.int .i64 lf,.slice Av acc.length cv,.int .i64 z2] 45) none).trans (aE _ none)) (fun g e=>by cases e)).more (by show wz.heap.size≤(wz.alloc _).heap.size;simp))
      have HSW:Hid (w.heap.size≤wy.heap.size):=aA HWY.out.size
      clear hwy
      refine zal (.tmp 102) (.tmp 104) _ rfl Tryz.underlying24 B w.heap.size _ rs rfl A0.out.r _ _ (⟨lf,acc,z2⟩,Av,cv) rfl HZC.out ⟨HROW.out.1,HROW.out.2.1,HRW2.out⟩ (by omega) (Nat.le_trans hB HSW.out) HSW.out ?_
      intro v8 w8 ho8 hg8
      have A1:=aA ((A0.out.more (Nat.le_trans HSW.out hg8.size)).r_put ho8 hg8)
      obtain⟨A8,c8,rfl,_,_⟩:=aM ho8
      have HQ8:Hid (w8.heap[Q]?=wz.heap[Q]?):=aA ((hg8.block Q (by have:=(Array.getElem?_eq_some_iff.1 (HQY.out.trans HPZ.out.qb)).1;exact this) (fun e=>by
       obtain⟨_,_,_,h3,_⟩:=A0.out.r
       have:=h3 _ e.symm
       have:=HPZ.out.q
       omega)).trans HQY.out)
      have HK8:Hid (KpA w w8):=aA (HKY.out.a.trans (by obtain⟨_,_,h2,_⟩:=A0.out.r;exact KpA.own h2 hg8 (.inr (.inr rfl))))
      have HW8:Hid (Below B w w8):=aA (HWY.out.grown hg8 (Nat.le_trans hB HSW.out) (fun k e=>by obtain⟨_,_,h2,_⟩:=A0.out.r;exact(aF h2 e).1))
      obtain⟨n8,hn8⟩:∃n,n=(rs++[(⟨lf,acc,z2⟩:Gm.Rl)]).length:=⟨_,rfl⟩
      have c28:w8.cell? ⟨R,2,none⟩=some (.slice AR2 rs.length cR2):=(A1.out.at 2).1
      have f28:=(A1.out.at 2).2.1
      have hR8:=(A1.out.at 2).2.2
      rw[←hn8]at A1 ⊢
      clear ho8 hg8 A0 hn8
      refine hKK _ _ ⟨⟨w8,HQ8.out⟩,rfl⟩ (fun x=>∃y:Calm.OnB Q wz,x=y.1) (fun _ h=>h) ⟨⟨w8,HQ8.out⟩,rfl⟩ ?_
      go_frame
      repeat (go_big_quiet_step (fail))
      refine wpQuiet_nil ?_
      intro KK hKK
      rw[if_pos (by rfl)]
      go_wp2_with fail
      have HQ9:=aA (fun u=>(Below.heap_setCell w8 ⟨R,2,none⟩ u Q (by simp only;have:=HPZ.out.q;omega)).trans HQ8.out)
      refine hKK _ _ ⟨⟨w8.setCell ⟨R,2,none⟩ _,HQ9.out _⟩,rfl⟩ (fun x=>∃y:Calm.OnB Q wz,x=y.1) (fun _ h=>h) ⟨⟨w8.setCell ⟨R,2,none⟩ _,HQ9.out _⟩,rfl⟩ ?_
      refine wpQuiet_nil ?_
      clear hKK
      go_wp2
      go_end0
      refine⟨rfl,⟨?_,Fit.more HP2.out.f ⟨HLI.out,HZ2.out,HIN.out.1⟩,HPZ.out.t⟩,HW8.out.setCell A1.out.hR _,HK8.out.trans (KpT.set A1.out 2 _).a⟩
      rw[aT]
      exact⟨vT',vN',_,A1.out.set 2 _⟩
     ·intro KK hKK
      rw[if_pos (by rfl)]
      go_wp2_with fail
      refine hKK _ _ ⟨⟨(wz.alloc _).drew,HQ1.out _⟩,rfl⟩ (fun x=>∃y:Calm.OnB Q wz,x=y.1) (fun _ h=>h) ⟨⟨(wz.alloc _).drew,HQ1.out _⟩,rfl⟩ ?_
      refine wpQuiet_nil ?_
      intro KK hKK
      rw[if_pos (by rfl)]
      go_wp2_with fail
      refine hKK _ _ ⟨⟨(wz.alloc _).drew,HQ1.out _⟩,rfl⟩ (fun x=>∃y:Calm.OnB Q wz,x=y.1) (fun _ h=>h) ⟨⟨(wz.alloc _).drew,HQ1.out _⟩,rfl⟩ ?_
      refine wpQuiet_nil ?_
      intro KK hKK
      rw[if_pos (by rfl)]
      obtain⟨wy,hwy⟩:∃x,x=(wz.alloc (.cells #[.int .i64 lf,.slice Av acc.length cv,.int .i64 z2] 45)).drew:=⟨_,rfl⟩
      rw[←hwy]
      have A0:Hid (WRaw wy B w.heap.size R (wC vT' vN' (.slice AR2 rs.length cR2) lv) vT' vN' (.slice AR2 rs.length cR2) ts' ns rs):=aA (by rw[hwy];exact(HFB.out.alloc (.cells #[.int .i64 lf,.slice Av acc.length cv,.int .i64 z2] 45)).drew9)
      have HWY:Hid (Below B w wy):=aA (by rw[hwy];exact aB (HPZ.out.w.alloc (Nat.le_trans hB HPZ.out.w.size) _) 1)
      have HKY:Hid (KpT w wy):=aA (by rw[hwy];exact HPZ.out.k.trans (KpT.below (aB ((Below.refl _ _).alloc (Nat.le_refl _) _) 1)))
      have HQY:Hid (wy.heap[Q]?=wz.heap[Q]?):=aA (by rw[hwy];exact HQ1.out _)
      have HZC:Hid (∀j u,(rlC (⟨lf,acc,z2⟩,Av,cv))[j]?=some u→wy.cell? ⟨wz.heap.size,j,none⟩=some u):=aA (fun j u hj=>by rw[hwy];exact(aH wz (rlC (⟨lf,acc,z2⟩,Av,cv)) 45 j).trans hj)
      have HRW2:Hid (bP wy B wy.heap.size Av acc):=aA (by
       rw[hwy]
       exact(HROW.out.2.2.grown (w':=(wz.alloc (.cells #[.int .i64 lf,.slice Av acc.length cv,.int .i64 z2] 45)).drew) (row:=none) ((World.grownBy_alloc wz (.cells #[.int .i64 lf,.slice Av acc.length cv,.int .i64 z2] 45) none).trans (aE _ none)) (fun g e=>by cases e)).more (by show wz.heap.size≤(wz.alloc _).heap.size;simp))
      have HSW:Hid (w.heap.size≤wy.heap.size):=aA HWY.out.size
      clear hwy
      refine zal (.tmp 102) (.tmp 104) _ rfl Tryz.underlying24 B w.heap.size _ rs rfl A0.out.r _ _ (⟨lf,acc,z2⟩,Av,cv) rfl HZC.out ⟨HROW.out.1,HROW.out.2.1,HRW2.out⟩ (by omega) (Nat.le_trans hB HSW.out) HSW.out ?_
      intro v8 w8 ho8 hg8
      have A1:=aA ((A0.out.more (Nat.le_trans HSW.out hg8.size)).r_put ho8 hg8)
      obtain⟨A8,c8,rfl,_,_⟩:=aM ho8
      have HQ8:Hid (w8.heap[Q]?=wz.heap[Q]?):=aA ((hg8.block Q (by have:=(Array.getElem?_eq_some_iff.1 (HQY.out.trans HPZ.out.qb)).1;exact this) (fun e=>by
       obtain⟨_,_,_,h3,_⟩:=A0.out.r
       have:=h3 _ e.symm
       have:=HPZ.out.q
       omega)).trans HQY.out)
      have HK8:Hid (KpA w w8):=aA (HKY.out.a.trans (by obtain⟨_,_,h2,_⟩:=A0.out.r;exact KpA.own h2 hg8 (.inr (.inr rfl))))
      have HW8:Hid (Below B w w8):=aA (HWY.out.grown hg8 (Nat.le_trans hB HSW.out) (fun k e=>by obtain⟨_,_,h2,_⟩:=A0.out.r;exact(aF h2 e).1))
      obtain⟨n8,hn8⟩:∃n,n=(rs++[(⟨lf,acc,z2⟩:Gm.Rl)]).length:=⟨_,rfl⟩
      have c28:w8.cell? ⟨R,2,none⟩=some (.slice AR2 rs.length cR2):=(A1.out.at 2).1
      have f28:=(A1.out.at 2).2.1
      have hR8:=(A1.out.at 2).2.2
      rw[←hn8]at A1 ⊢
      clear ho8 hg8 A0 hn8
      refine hKK _ _ ⟨⟨w8,HQ8.out⟩,rfl⟩ (fun x=>∃y:Calm.OnB Q wz,x=y.1) (fun _ h=>h) ⟨⟨w8,HQ8.out⟩,rfl⟩ ?_
      go_frame
      repeat (go_big_quiet_step (fail))
      refine wpQuiet_nil ?_
      intro KK hKK
      rw[if_pos (by rfl)]
      go_wp2_with fail
      have HQ9:=aA (fun u=>(Below.heap_setCell w8 ⟨R,2,none⟩ u Q (by simp only;have:=HPZ.out.q;omega)).trans HQ8.out)
      refine hKK _ _ ⟨⟨w8.setCell ⟨R,2,none⟩ _,HQ9.out _⟩,rfl⟩ (fun x=>∃y:Calm.OnB Q wz,x=y.1) (fun _ h=>h) ⟨⟨w8.setCell ⟨R,2,none⟩ _,HQ9.out _⟩,rfl⟩ ?_
      refine wpQuiet_nil ?_
      clear hKK
      go_wp2
      go_end0
      refine⟨rfl,⟨?_,Fit.more HP2.out.f ⟨HLI.out,HZ2.out,HIN.out.1⟩,HPZ.out.t⟩,HW8.out.setCell A1.out.hR _,HK8.out.trans (KpT.set A1.out 2 _).a⟩
      rw[aT]
      exact⟨vT',vN',_,A1.out.set 2 _⟩
def zjZ (L:List Int) (w':World) (B R:Nat) (S:St) (r:Gm.R Int) (e:Ending):Prop:=match r with
 | .ok z=>e=.returned (.tuple #[.complex .f64 0 0,.int .i64 0])∧Bld L w' B w'.heap.size R {S with z:=z}
 | .bad y er=>er≠0∧e=.returned (.tuple #[.complex .f64 (rfX L y) (rfY L y),.int .i64 er])
theorem zgP (L:List Int) (B R:Nat) (S:St) (p:Tok) (pn g o:Nat) (A2:Option Addr) (c n2 c2:Nat) (w:World) (hb:Bld L w B w.heap.size R S) (hd:Gm.named p.t=true∧K.Bytes p.t) (k0:w.cell? ⟨g,o,none⟩=some (.string (K.str p.t))) (k1:w.cell? ⟨g,o+1,none⟩=some (.complex .f64 (rfX L p) (rfY L p))) (hgB:g<B) (hN:Gm.Nin S.s.ts S.ns) (hn:0<pn) (hf:Gm.find S.ns p.t=0) (hst:S.s.st=none) (hB:B≤w.heap.size) :
  Calls Tryz.prog 59 #[.pointer (some ⟨R,0,none⟩),.agg #[.slice A2 n2 c2,.slice (some ⟨g,o,none⟩) pn c]] w fun e w'=>zjZ L w' B R S (.ok 0) e∧Below B w w'∧aP w w':=by
 have SC:=fun a w m X Y=>show(store a (.complex .f64 X Y) m).run Tryz.prog w=stored Tryz.prog w a (.complex .f64 X Y) m from run_store _ w a _ m rfl
 have hgs:g<w.heap.size:=by omega
 have HTX:=aA (Gm.tx_named hd)
 have hnt:¬(0:Int)≤Gm.find (Gm.names S.s.ts) p.t:=fun q=>by
  obtain⟨i,_,hi,e⟩:=Gm.find_some (show 0≤Gm.find S.ns p.t by omega)
  have:=hN.no _ (List.getElem_mem hi)
  rw[e]at this
  have:=Gm.find_none.2 this
  omega
 have he:bL S.s.ts S.ns p.t=some (.int .i64 (-1)):=by unfold bL;rw[if_neg hnt,if_pos (by omega),hf];rfl
 have HNN:=aA (fun y=>zbF (-1) (by omega) (by omega) y)
 have HIT:=aA (fun y=>zag (-1) y)
 obtain⟨vT,vN,vR,Ms,Mt,ml,tl,h⟩:=id hb
 have HH:=aA h
 have e0:decide (0<(pn:Int))=true:=decide_eq_true (by omega)
 have c7:w.cell? ⟨R,7,none⟩=some (.string ⟨#[]⟩):=(cell_of_row w R 7 _ _ _ h.w.b).trans (by show some (Value.string (soS S.s.st))=_;rw[hst];rfl)
 have c8:w.cell? ⟨R,8,none⟩=some (.complex .f64 0 0):=(cell_of_row w R 8 _ _ _ h.w.b).trans (by show some (Value.complex .f64 (soX L S.s.st) (soY L S.s.st))=_;rw[hst];rfl)
 have hRs:=(Array.getElem?_eq_some_iff.1 h.w.b).1
 have HLK:=aA (fun(y:World) (hy:Below w.heap.size w y)=>(by
  have h:=HH.out.below hy
  have:=Mw.run_look (x:=p.t) h.w.ms zgU Tryz.underlying87 (zaP y) HTX.out true
  rw[if_pos rfl,h.so p.t,he]at this
  exact this:(Instr.lookup 87 (.map (some Ms)) (.string (K.str p.t)) true).run Tryz.prog y=.ok (.tuple #[.int .i64 (-1),.bool true]) y))
 have HC4:=aA (fun(y:World) (hy:Below w.heap.size w y)=>((HH.out.below hy).w.at 4).1)
 have HGS:=aA hgs
 clear hb hd hN hf hnt he h hst HTX
 generalize rfX L p=X at *
 generalize rfY L p=Y at *
 generalize K.str p.t=sx at *
 go_enter Tryz.func59,Tryz.ntmps59
 go_upto_region 4 with fail
 obtain⟨wz,hwz⟩:∃x,x=(w.alloc (.cells #[.slice A2 n2 c2,.slice (some ⟨g,o,none⟩) pn c] 60)).alloc (.cells #[.string sx,.complex .f64 X Y] 90):=⟨_,rfl⟩
 rw[←hwz]
 have HWZ:Hid (Below w.heap.size w wz):=aA (by rw[hwz];exact((Below.refl _ w).alloc (Nat.le_refl _) _).alloc (by simp) _)
 have HQ:Hid (wz.heap[w.heap.size+1]?=some (.cells #[.string sx,.complex .f64 X Y] 90 (0,0))):=aA (by rw[hwz];have:=heap_alloc_new (w.alloc (.cells #[.slice A2 n2 c2,.slice (some ⟨g,o,none⟩) pn c] 60)) (.cells #[.string sx,.complex .f64 X Y] 90);simpa using this)
 have hzs:wz.heap.size=w.heap.size+2:=by rw[hwz];simp
 clear hwz
 have L0:∀y:Calm.On wz.heap.size wz,(Instr.lookup 87 (.map (some Ms)) (.string sx) true).run Tryz.prog y.1=.ok (.tuple #[.int .i64 (-1),.bool true]) y.1:=fun y=>HLK.out y.1 (HWZ.out.trans (y.2.mono (by omega)))
 have C4:∀y:Calm.On wz.heap.size wz,y.1.cell? ⟨R,4,none⟩=some (.map (some Ms)):=fun y=>HC4.out y.1 (HWZ.out.trans (y.2.mono (by omega)))
 have D0:∀y:Calm.On wz.heap.size wz,y.1.cell? ⟨w.heap.size+1,0,none⟩=some (.string sx):=fun y=>cell_of_row y.1 _ 0 _ _ _ ((y.2.block _ (by omega)).trans HQ.out)
 have HWD:Hid (Below w.heap.size w wz.drew):=aA (aB HWZ.out 1)
 refine CalmN.region_tree (fun x=>∃y:Calm.On wz.heap.size wz,x=y.1) (.fin [0,1,2,3,4,5,6,7,8,9,10,11]) (by kernel_rfl) (by kernel_rfl) (fun _ _ d _ _ h=>by cases d <;> exact h) ⟨⟨wz.drew,aB (Below.refl wz.heap.size wz) 1⟩,rfl⟩ ?_
 simp only[CalmN.wpT,CalmN.pickOps,List.getElem?_toArray,List.getElem?_cons_zero,List.getElem?_cons_succ]
 repeat (go_big_quiet_step (fail))
 refine wpQuiet_nil ?_
 clear L0 C4 D0 c7 c8
 have HB3:=aA (HH.out.below HWD.out)
 have c3:wz.drew.cell? ⟨R,3,none⟩=some (.int .i64 S.z):=(HB3.out.w.at 3).1
 have f3:=(HB3.out.w.at 3).2.1
 have hR3:=(HB3.out.w.at 3).2.2
 obtain⟨wd,hwd⟩:∃x,x=wz.drew:=⟨_,rfl⟩
 rw[←hwd]at c3 f3 hR3 HB3 HWD ⊢
 clear hwd hzs hRs
 go_wp2_with fail
 refine(HIT.out _).mono ?_;rintro _ w5 ⟨rfl,hw5⟩
 subst hw5
 go_wp2_with fail
 refine(HNN.out _).mono ?_;rintro _ w5 ⟨rfl,hw5⟩
 subst hw5
 go_wp2
 go_ret2
 refine⟨⟨rfl,?_⟩,(HWD.out.mono hB).setCell HB3.out.w.hR _,(aP.below HWD.out).trans (aP.cells (aD (World.grownBy.refl _ _) 3 _) HB3.out.w.b (.inl rfl))⟩
 rw[aT]
 refine Bld.more (N:=w.heap.size) (S:={S with z:=0}) ?_ HWD.out.size
 exact⟨vT,vN,vR,Ms,Mt,ml,tl,⟨HB3.out.w.set 3 (.int .i64 0),HB3.out.so,HB3.out.ko⟩⟩
theorem zjw (L:List Int) (B R:Nat) (S:St) (x:Tok) (pn:Nat) (A A2:Option Addr) (c n2 c2:Nat) (w:World) (hb:Bld L w B w.heap.size R S) (hd:Gm.named x.t=true∧K.Bytes x.t) (hN:Gm.Nin S.s.ts S.ns) (hst:S.s.st=some x) (hf:0≤Gm.find S.ns x.t) (hB:B≤w.heap.size) :
  Calls Tryz.prog 59 #[.pointer (some ⟨R,0,none⟩),.agg #[.slice A2 n2 c2,.slice A pn c]] w fun e w'=>zjZ L w' B R S (.ok (Gm.find S.ns x.t)) e∧Below B w w'∧aP w w':=by
 have SC:=fun a w m X Y=>show(store a (.complex .f64 X Y) m).run Tryz.prog w=stored Tryz.prog w a (.complex .f64 X Y) m from run_store _ w a _ m rfl
 have HTX:=aA (Gm.tx_named hd)
 have hnt:¬(0:Int)≤Gm.find (Gm.names S.s.ts) x.t:=fun q=>by
  obtain⟨i,_,hi,e⟩:=Gm.find_some (show 0≤Gm.find S.ns x.t by omega)
  have:=hN.no _ (List.getElem_mem hi)
  rw[e]at this
  have:=Gm.find_none.2 this
  omega
 have hfl:=Gm.find_lt S.ns x.t
 have hNl:=hN.c
 obtain⟨z,hz⟩:∃z,z = -1-Gm.find S.ns x.t:=⟨_,rfl⟩
 have he:bL S.s.ts S.ns x.t=some (.int .i64 z):=by unfold bL;rw[if_neg hnt,if_pos hf,hz]
 have HNN:=aA (fun y=>zbF z (by omega) (by omega) y)
 have HIT:=aA (fun y=>zag z y)
 rw[decide_eq_false (by omega)]at HIT
 have HZZ:Hid (-1-z=Gm.find S.ns x.t):=aA (by omega)
 obtain⟨zz,hzz⟩:∃q,q = -1-z:=⟨_,rfl⟩
 rw[←hzz]at HNN HZZ
 clear hz hzz hfl hNl
 obtain⟨vT,vN,vR,Ms,Mt,ml,tl,h⟩:=id hb
 have HH:=aA h
 have c7:w.cell? ⟨R,7,none⟩=some (.string (K.str x.t)):=(cell_of_row w R 7 _ _ _ h.w.b).trans (by show some (Value.string (soS S.s.st))=_;rw[hst];rfl)
 have c8:w.cell? ⟨R,8,none⟩=some (.complex .f64 (rfX L x) (rfY L x)):=(cell_of_row w R 8 _ _ _ h.w.b).trans (by show some (Value.complex .f64 (soX L S.s.st) (soY L S.s.st))=_;rw[hst];rfl)
 have hRs:=(Array.getElem?_eq_some_iff.1 h.w.b).1
 have HLK:=aA (fun(y:World) (hy:Below w.heap.size w y)=>(by
  have h:=HH.out.below hy
  have:=Mw.run_look (x:=x.t) h.w.ms zgU Tryz.underlying87 (zaP y) HTX.out true
  rw[if_pos rfl,h.so x.t,he]at this
  exact this:(Instr.lookup 87 (.map (some Ms)) (.string (K.str x.t)) true).run Tryz.prog y=.ok (.tuple #[.int .i64 z,.bool true]) y))
 have HC4:=aA (fun(y:World) (hy:Below w.heap.size w y)=>((HH.out.below hy).w.at 4).1)
 have hxe:x.t≠[]:=fun e=>by have:=hd.1;rw[e]at this;simp[Gm.named,T.isName,T.isLit]at this
 have hsn:¬(K.str x.t).toList=[]:=by rw[K.str_list];intro e;exact hxe (by simpa[K.bytes] using e)
 have HXX:Hid (∀X Y,X=rfX L x→Y=rfY L x→zjZ L w B R S (.bad x 8) (.returned (.tuple #[.complex .f64 X Y,.int .i64 8]))):=aA (fun X Y h1 h2=>by subst h1 h2;exact⟨by decide,rfl⟩)
 clear hb hd hN hf hnt he h hst HTX hxe
 obtain⟨X,hX⟩:∃X,X=rfX L x:=⟨_,rfl⟩
 obtain⟨Y,hY⟩:∃Y,Y=rfY L x:=⟨_,rfl⟩
 rw[←hX,←hY]at c8
 have HXY:=aA (And.intro hX hY)
 clear hX hY
 generalize K.str x.t=sx at *
 have hsn':sx.toList.isEmpty=false:=by simpa using hsn
 go_enter Tryz.func59,Tryz.ntmps59
 go_upto_region 4 with fail
 obtain⟨wz,hwz⟩:∃x,x=(w.alloc (.cells #[.slice A2 n2 c2,.slice A pn c] 60)).alloc (.cells #[.string sx,.complex .f64 X Y] 90):=⟨_,rfl⟩
 rw[←hwz]
 have HWZ:Hid (Below w.heap.size w wz):=aA (by rw[hwz];exact((Below.refl _ w).alloc (Nat.le_refl _) _).alloc (by simp) _)
 have HQ:Hid (wz.heap[w.heap.size+1]?=some (.cells #[.string sx,.complex .f64 X Y] 90 (0,0))):=aA (by rw[hwz];have:=heap_alloc_new (w.alloc (.cells #[.slice A2 n2 c2,.slice A pn c] 60)) (.cells #[.string sx,.complex .f64 X Y] 90);simpa using this)
 have hzs:wz.heap.size=w.heap.size+2:=by rw[hwz];simp
 clear hwz
 have L0:∀y:Calm.On wz.heap.size wz,(Instr.lookup 87 (.map (some Ms)) (.string sx) true).run Tryz.prog y.1=.ok (.tuple #[.int .i64 z,.bool true]) y.1:=fun y=>HLK.out y.1 (HWZ.out.trans (y.2.mono (by omega)))
 have C4:∀y:Calm.On wz.heap.size wz,y.1.cell? ⟨R,4,none⟩=some (.map (some Ms)):=fun y=>HC4.out y.1 (HWZ.out.trans (y.2.mono (by omega)))
 have D0:∀y:Calm.On wz.heap.size wz,y.1.cell? ⟨w.heap.size+1,0,none⟩=some (.string sx):=fun y=>cell_of_row y.1 _ 0 _ _ _ ((y.2.block _ (by omega)).trans HQ.out)
 have HWD:Hid (Below w.heap.size w wz.drew):=aA (aB HWZ.out 1)
 refine CalmN.region_tree (fun x=>∃y:Calm.On wz.heap.size wz,x=y.1) (.fin [0,1,2,3,4,5,6,7,8,9,10,11]) (by kernel_rfl) (by kernel_rfl) (fun _ _ d _ _ h=>by cases d <;> exact h) ⟨⟨wz.drew,aB (Below.refl wz.heap.size wz) 1⟩,rfl⟩ ?_
 simp only[CalmN.wpT,CalmN.pickOps,List.getElem?_toArray,List.getElem?_cons_zero,List.getElem?_cons_succ]
 repeat (go_big_quiet_step (fail))
 refine wpQuiet_nil ?_
 clear L0 C4 D0 c7 c8
 have HB3:=aA (HH.out.below HWD.out)
 have c3:wz.drew.cell? ⟨R,3,none⟩=some (.int .i64 S.z):=(HB3.out.w.at 3).1
 have f3:=(HB3.out.w.at 3).2.1
 have hR3:=(HB3.out.w.at 3).2.2
 obtain⟨wd,hwd⟩:∃x,x=wz.drew:=⟨_,rfl⟩
 rw[←hwd]at c3 f3 hR3 HB3 HWD ⊢
 clear hwd hzs hRs
 go_wp2_with fail
 refine(HIT.out _).mono ?_;rintro _ w5 ⟨rfl,hw5⟩
 subst hw5
 go_wp2_with fail
 refine(HNN.out _).mono ?_;rintro _ w5 ⟨rfl,hw5⟩
 subst hw5
 go_wp2
 go_ret2
 rw[←HZZ.out]
 refine⟨⟨rfl,?_⟩,(HWD.out.mono hB).setCell HB3.out.w.hR _,(aP.below HWD.out).trans (aP.cells (aD (World.grownBy.refl _ _) 3 _) HB3.out.w.b (.inl rfl))⟩
 rw[aT]
 refine Bld.more (N:=w.heap.size) (S:={S with z:=zz}) ?_ HWD.out.size
 exact⟨vT,vN,vR,Ms,Mt,ml,tl,⟨HB3.out.w.set 3 (.int .i64 zz),HB3.out.so,HB3.out.ko⟩⟩
theorem zgO (L:List Int) (B R:Nat) (S:St) (x:Tok) (pn:Nat) (A A2:Option Addr) (c n2 c2:Nat) (w:World) (hb:Bld L w B w.heap.size R S) (hd:Gm.named x.t=true∧K.Bytes x.t) (_hN:Gm.Nin S.s.ts S.ns) (hst:S.s.st=some x) (hf:0≤Gm.find (Gm.names S.s.ts) x.t) (hB:B≤w.heap.size) :
  Calls Tryz.prog 59 #[.pointer (some ⟨R,0,none⟩),.agg #[.slice A2 n2 c2,.slice A pn c]] w fun e w'=>zjZ L w' B R S (.bad x 8) e∧Below B w w'∧aP w w':=by
 have SC:=fun a w m X Y=>show(store a (.complex .f64 X Y) m).run Tryz.prog w=stored Tryz.prog w a (.complex .f64 X Y) m from run_store _ w a _ m rfl
 have HTX:=aA (Gm.tx_named hd)
 obtain⟨z,hz⟩:∃z,z=Gm.find (Gm.names S.s.ts) x.t:=⟨_,rfl⟩
 have he:bL S.s.ts S.ns x.t=some (.int .i64 z):=by unfold bL;rw[if_pos hf,hz]
 have HIT:=aA (fun y=>zag z y)
 rw[decide_eq_true (by omega)]at HIT
 clear hz
 obtain⟨vT,vN,vR,Ms,Mt,ml,tl,h⟩:=id hb
 have HH:=aA h
 have c7:w.cell? ⟨R,7,none⟩=some (.string (K.str x.t)):=(cell_of_row w R 7 _ _ _ h.w.b).trans (by show some (Value.string (soS S.s.st))=_;rw[hst];rfl)
 have c8:w.cell? ⟨R,8,none⟩=some (.complex .f64 (rfX L x) (rfY L x)):=(cell_of_row w R 8 _ _ _ h.w.b).trans (by show some (Value.complex .f64 (soX L S.s.st) (soY L S.s.st))=_;rw[hst];rfl)
 have hRs:=(Array.getElem?_eq_some_iff.1 h.w.b).1
 have HLK:=aA (fun(y:World) (hy:Below w.heap.size w y)=>(by
  have h:=HH.out.below hy
  have:=Mw.run_look (x:=x.t) h.w.ms zgU Tryz.underlying87 (zaP y) HTX.out true
  rw[if_pos rfl,h.so x.t,he]at this
  exact this:(Instr.lookup 87 (.map (some Ms)) (.string (K.str x.t)) true).run Tryz.prog y=.ok (.tuple #[.int .i64 z,.bool true]) y))
 have HC4:=aA (fun(y:World) (hy:Below w.heap.size w y)=>((HH.out.below hy).w.at 4).1)
 have hxe:x.t≠[]:=fun e=>by have:=hd.1;rw[e]at this;simp[Gm.named,T.isName,T.isLit]at this
 have hsn:¬(K.str x.t).toList=[]:=by rw[K.str_list];intro e;exact hxe (by simpa[K.bytes] using e)
 have HXX:Hid (∀X Y,X=rfX L x→Y=rfY L x→zjZ L w B R S (.bad x 8) (.returned (.tuple #[.complex .f64 X Y,.int .i64 8]))):=aA (fun X Y h1 h2=>by subst h1 h2;exact⟨by decide,rfl⟩)
 clear hb hd _hN hf he h hst HTX hxe
 obtain⟨X,hX⟩:∃X,X=rfX L x:=⟨_,rfl⟩
 obtain⟨Y,hY⟩:∃Y,Y=rfY L x:=⟨_,rfl⟩
 rw[←hX,←hY]at c8
 have HXY:=aA (And.intro hX hY)
 clear hX hY
 generalize K.str x.t=sx at *
 have hsn':sx.toList.isEmpty=false:=by simpa using hsn
 go_enter Tryz.func59,Tryz.ntmps59
 go_upto_region 4 with fail
 obtain⟨wz,hwz⟩:∃x,x=(w.alloc (.cells #[.slice A2 n2 c2,.slice A pn c] 60)).alloc (.cells #[.string sx,.complex .f64 X Y] 90):=⟨_,rfl⟩
 rw[←hwz]
 have HWZ:Hid (Below w.heap.size w wz):=aA (by rw[hwz];exact((Below.refl _ w).alloc (Nat.le_refl _) _).alloc (by simp) _)
 have HQ:Hid (wz.heap[w.heap.size+1]?=some (.cells #[.string sx,.complex .f64 X Y] 90 (0,0))):=aA (by rw[hwz];have:=heap_alloc_new (w.alloc (.cells #[.slice A2 n2 c2,.slice A pn c] 60)) (.cells #[.string sx,.complex .f64 X Y] 90);simpa using this)
 have hzs:wz.heap.size=w.heap.size+2:=by rw[hwz];simp
 clear hwz
 have L0:∀y:Calm.On wz.heap.size wz,(Instr.lookup 87 (.map (some Ms)) (.string sx) true).run Tryz.prog y.1=.ok (.tuple #[.int .i64 z,.bool true]) y.1:=fun y=>HLK.out y.1 (HWZ.out.trans (y.2.mono (by omega)))
 have C4:∀y:Calm.On wz.heap.size wz,y.1.cell? ⟨R,4,none⟩=some (.map (some Ms)):=fun y=>HC4.out y.1 (HWZ.out.trans (y.2.mono (by omega)))
 have D0:∀y:Calm.On wz.heap.size wz,y.1.cell? ⟨w.heap.size+1,0,none⟩=some (.string sx):=fun y=>cell_of_row y.1 _ 0 _ _ _ ((y.2.block _ (by omega)).trans HQ.out)
 have HWD:Hid (Below w.heap.size w wz.drew):=aA (aB HWZ.out 1)
 refine CalmN.region_tree (fun x=>∃y:Calm.On wz.heap.size wz,x=y.1) (.fin [0,1,2,3,4,5,6,7,8,9,10,11]) (by kernel_rfl) (by kernel_rfl) (fun _ _ d _ _ h=>by cases d <;> exact h) ⟨⟨wz.drew,aB (Below.refl wz.heap.size wz) 1⟩,rfl⟩ ?_
 simp only[CalmN.wpT,CalmN.pickOps,List.getElem?_toArray,List.getElem?_cons_zero,List.getElem?_cons_succ]
 repeat (go_big_quiet_step (fail))
 refine wpQuiet_nil ?_
 clear L0 C4 D0 c7 c8
 have r1:wz.drew.cell? ⟨w.heap.size+1,1,none⟩=some (.complex .f64 X Y):=cell_of_row wz.drew _ 1 _ _ _ HQ.out
 obtain⟨wd,hwd⟩:∃x,x=wz.drew:=⟨_,rfl⟩
 have hrs:w.heap.size+1<wd.heap.size:=by rw[hwd];show w.heap.size+1<wz.heap.size;omega
 rw[←hwd]at r1 HWD ⊢
 clear hwd hzs hRs
 go_wp2_with fail
 refine(HIT.out _).mono ?_;rintro _ w5 ⟨rfl,hw5⟩
 subst hw5
 go_wp2
 go_ret2
 exact⟨HXX.out X Y HXY.out.1 HXY.out.2,HWD.out.mono hB,aP.below HWD.out⟩
theorem zgQ (L:List Int) (B R:Nat) (S:St) (x:Tok) (pn:Nat) (A A2:Option Addr) (c n2 c2:Nat) (w:World) (hb:Bld L w B w.heap.size R S) (hd:Gm.named x.t=true∧K.Bytes x.t) (_hN:Gm.Nin S.s.ts S.ns) (hst:S.s.st=some x) (hf:¬(0:Int)≤Gm.find S.ns x.t) (hg:¬(0:Int)≤Gm.find (Gm.names S.s.ts) x.t) (hB:B≤w.heap.size) :
  Calls Tryz.prog 59 #[.pointer (some ⟨R,0,none⟩),.agg #[.slice A2 n2 c2,.slice A pn c]] w fun e w'=>zjZ L w' B R S (.bad x 8) e∧Below B w w'∧aP w w':=by
 have SC:=fun a w m X Y=>show(store a (.complex .f64 X Y) m).run Tryz.prog w=stored Tryz.prog w a (.complex .f64 X Y) m from run_store _ w a _ m rfl
 have HTX:=aA (Gm.tx_named hd)
 have he:bL S.s.ts S.ns x.t=none:=by unfold bL;rw[if_neg hg,if_neg hf]
 obtain⟨vT,vN,vR,Ms,Mt,ml,tl,h⟩:=id hb
 have HH:=aA h
 have c7:w.cell? ⟨R,7,none⟩=some (.string (K.str x.t)):=(cell_of_row w R 7 _ _ _ h.w.b).trans (by show some (Value.string (soS S.s.st))=_;rw[hst];rfl)
 have c8:w.cell? ⟨R,8,none⟩=some (.complex .f64 (rfX L x) (rfY L x)):=(cell_of_row w R 8 _ _ _ h.w.b).trans (by show some (Value.complex .f64 (soX L S.s.st) (soY L S.s.st))=_;rw[hst];rfl)
 have hRs:=(Array.getElem?_eq_some_iff.1 h.w.b).1
 have HLK:=aA (fun(y:World) (hy:Below w.heap.size w y)=>(by
  have h:=HH.out.below hy
  have:=Mw.run_look (x:=x.t) h.w.ms zgU Tryz.underlying87 (zaP y) HTX.out true
  rw[if_pos rfl,h.so x.t,he]at this
  exact this:(Instr.lookup 87 (.map (some Ms)) (.string (K.str x.t)) true).run Tryz.prog y=.ok (.tuple #[.int .i64 0,.bool false]) y))
 have HC4:=aA (fun(y:World) (hy:Below w.heap.size w y)=>((HH.out.below hy).w.at 4).1)
 have hxe:x.t≠[]:=fun e=>by have:=hd.1;rw[e]at this;simp[Gm.named,T.isName,T.isLit]at this
 have hsn:¬(K.str x.t).toList=[]:=by rw[K.str_list];intro e;exact hxe (by simpa[K.bytes] using e)
 have HXX:Hid (∀X Y,X=rfX L x→Y=rfY L x→zjZ L w B R S (.bad x 8) (.returned (.tuple #[.complex .f64 X Y,.int .i64 8]))):=aA (fun X Y h1 h2=>by subst h1 h2;exact⟨by decide,rfl⟩)
 clear hb hd _hN hf hg he h hst HTX hxe
 obtain⟨X,hX⟩:∃X,X=rfX L x:=⟨_,rfl⟩
 obtain⟨Y,hY⟩:∃Y,Y=rfY L x:=⟨_,rfl⟩
 rw[←hX,←hY]at c8
 have HXY:=aA (And.intro hX hY)
 clear hX hY
 generalize K.str x.t=sx at *
 have hsn':sx.toList.isEmpty=false:=by simpa using hsn
 go_enter Tryz.func59,Tryz.ntmps59
 go_upto_region 4 with fail
 obtain⟨wz,hwz⟩:∃x,x=(w.alloc (.cells #[.slice A2 n2 c2,.slice A pn c] 60)).alloc (.cells #[.string sx,.complex .f64 X Y] 90):=⟨_,rfl⟩
 rw[←hwz]
 have HWZ:Hid (Below w.heap.size w wz):=aA (by rw[hwz];exact((Below.refl _ w).alloc (Nat.le_refl _) _).alloc (by simp) _)
 have HQ:Hid (wz.heap[w.heap.size+1]?=some (.cells #[.string sx,.complex .f64 X Y] 90 (0,0))):=aA (by rw[hwz];have:=heap_alloc_new (w.alloc (.cells #[.slice A2 n2 c2,.slice A pn c] 60)) (.cells #[.string sx,.complex .f64 X Y] 90);simpa using this)
 have hzs:wz.heap.size=w.heap.size+2:=by rw[hwz];simp
 clear hwz
 have L0:∀y:Calm.On wz.heap.size wz,(Instr.lookup 87 (.map (some Ms)) (.string sx) true).run Tryz.prog y.1=.ok (.tuple #[.int .i64 0,.bool false]) y.1:=fun y=>HLK.out y.1 (HWZ.out.trans (y.2.mono (by omega)))
 have C4:∀y:Calm.On wz.heap.size wz,y.1.cell? ⟨R,4,none⟩=some (.map (some Ms)):=fun y=>HC4.out y.1 (HWZ.out.trans (y.2.mono (by omega)))
 have D0:∀y:Calm.On wz.heap.size wz,y.1.cell? ⟨w.heap.size+1,0,none⟩=some (.string sx):=fun y=>cell_of_row y.1 _ 0 _ _ _ ((y.2.block _ (by omega)).trans HQ.out)
 have HWD:Hid (Below w.heap.size w wz.drew):=aA (aB HWZ.out 1)
 refine CalmN.region_tree (fun x=>∃y:Calm.On wz.heap.size wz,x=y.1) (.fin [0,1,2,3,4,5,6,7,8,9,10,11]) (by kernel_rfl) (by kernel_rfl) (fun _ _ d _ _ h=>by cases d <;> exact h) ⟨⟨wz.drew,aB (Below.refl wz.heap.size wz) 1⟩,rfl⟩ ?_
 simp only[CalmN.wpT,CalmN.pickOps,List.getElem?_toArray,List.getElem?_cons_zero,List.getElem?_cons_succ]
 repeat (go_big_quiet_step (fail))
 refine wpQuiet_nil ?_
 clear L0 C4 D0 c7 c8
 have r1:wz.drew.cell? ⟨w.heap.size+1,1,none⟩=some (.complex .f64 X Y):=cell_of_row wz.drew _ 1 _ _ _ HQ.out
 obtain⟨wd,hwd⟩:∃x,x=wz.drew:=⟨_,rfl⟩
 have hrs:w.heap.size+1<wd.heap.size:=by rw[hwd];show w.heap.size+1<wz.heap.size;omega
 rw[←hwd]at r1 HWD ⊢
 clear hwd hzs hRs
 go_wp2
 go_ret2
 exact⟨HXX.out X Y HXY.out.1 HXY.out.2,HWD.out.mono hB,aP.below HWD.out⟩
theorem zgF {ts:List Gm.Tm} {ps:List Y.Prd} {ns:List (List Int)} (hx:∀p∈ps,T.isName p.l.t=true∧K.Bytes p.l.t) (h:Gm.lefts ts [] ps=.ok ns) (hn:0<ps.length):Gm.find ns ps[0].l.t=0:=by
 obtain⟨_,_,k⟩:=Gm.lefts_ok ts ps (Gm.Nin.nil ts) hx h
 rcases ps with _|⟨p,r⟩
 ·simp at hn
 ·rw[List.map_cons,Gm.tops]at k
  split at k
  ·cases k
  ·rename_i q
   simp at q
   simp only[List.getElem_cons_zero]
   omega
theorem ziv (L:List Int) (B R:Nat) (S:St) (ps:List Y.Prd) (A A2:Option Addr) (c n2 c2:Nat) (w:World) (hb:Bld L w B w.heap.size R S) (hd:∀d∈ps,zln d) (hr:zgW L w B A ps) (hN:Gm.Nin S.s.ts S.ns) (hn:0<ps.length) (hf:Gm.find S.ns ps[0].l.t=0) (hst:∀x,S.s.st=some x→Gm.named x.t=true∧K.Bytes x.t) (hB:B≤w.heap.size) :
  Calls Tryz.prog 59 #[.pointer (some ⟨R,0,none⟩),.agg #[.slice A2 n2 c2,.slice A ps.length c]] w fun e w'=>zjZ L w' B R S (Gm.start S.ns S.s.st) e∧Below B w w'∧aP w w':=by
 rcases hs:S.s.st with _|x
 ·obtain⟨g,o,rfl,hgB,hc⟩:=hr (by omega)
  obtain⟨k0,k1,_⟩:=hc 0 hn
  rw[Nat.zero_mul,Nat.add_zero]at k0 k1
  have hd0:=(hd _ (List.getElem_mem hn)).1
  exact zgP L B R S ps[0].l ps.length g o A2 c n2 c2 w hb ⟨by unfold Gm.named;rw[hd0.1];rfl,hd0.2⟩ k0 k1 hgB hN hn hf hs hB
 ·unfold Gm.start
  simp only
  by_cases h1:0≤Gm.find S.ns x.t
  ·rw[if_pos h1]
   exact zjw L B R S x ps.length A A2 c n2 c2 w hb (hst x hs) hN hs h1 hB
  ·rw[if_neg h1]
   by_cases h2:0≤Gm.find (Gm.names S.s.ts) x.t
   ·exact zgO L B R S x ps.length A A2 c n2 c2 w hb (hst x hs) hN hs h2 hB
   ·exact zgQ L B R S x ps.length A A2 c n2 c2 w hb (hst x hs) hN hs h1 h2 hB
end Go.Proofs.YtkfelkpilaipnaaGreatDoor
