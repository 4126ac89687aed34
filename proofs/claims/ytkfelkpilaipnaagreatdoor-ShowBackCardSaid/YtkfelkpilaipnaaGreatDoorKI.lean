/- Part of the proofs over this program: BldP, BldQ, BldX, Work9. -/
import Derived.Test.YtkfelkpilaipnaaGreatDoorKH
namespace Go.Proofs.YtkfelkpilaipnaaGreatDoor
set_option maxRecDepth 100000
set_option maxHeartbeats 40000000
open Go.RowKit
structure PrI (L:List Int) (w0 wr:World) (B R:Nat) (S0 S:St) (PC:Array Value) (lf:Int) (v:Value) (acc:List Int) (p:Int):Prop where
 b:Bld L wr B w0.heap.size R S
 e:∀ts,({S0 with s:={S0.s with ts:=ts} }:St) = {S with s:={S.s with ts:=ts} }
 n:Gm.Nin S.s.ts S.ns
 t:S.s.ts.length≤24
 w:Below B w0 wr
 k:aJ w0 wr
 pb:wr.heap[w0.heap.size]?=some (.cells PC 104 (0,0))
 qb:wr.heap[w0.heap.size+1]?=some (.cells #[.int .i64 lf,v,.int .i64 p] 45 (0,0))
 o:bE wr w0.heap.size v acc
theorem PrI.alloc {L:List Int} {w0 wr:World} {B R:Nat} {S0 S:St} {PC:Array Value} {lf p:Int} {v:Value} {acc:List Int} (h:PrI L w0 wr B R S0 S PC lf v acc p) (o:Obj) (hB:B≤w0.heap.size):PrI L w0 (wr.alloc o) B R S0 S PC lf v acc p :=
 ⟨h.b.alloc o,h.e,h.n,h.t,h.w.alloc (Nat.le_trans hB h.w.size) o,h.k.trans (aJ.below ((Below.refl _ _).alloc (Nat.le_refl _) o)),(Below.heap_alloc wr o _ (Array.getElem?_eq_some_iff.1 h.pb).1).trans h.pb,(Below.heap_alloc wr o _ (Array.getElem?_eq_some_iff.1 h.qb).1).trans h.qb,h.o.alloc o⟩
theorem PrI.call {L:List Int} {w0 wr w':World} {B R:Nat} {S0 S:St} {PC:Array Value} {lf p:Int} {v:Value} {acc:List Int} (h:PrI L w0 wr B R S0 S PC lf v acc p) {ts:List Gm.Tm} (hb:Bld L w' B w0.heap.size R {S with s:={S.s with ts:=ts} }) (hw:Below B wr w') (hk:aJ wr w') (hn:Gm.Nin ts S.ns) (ht:ts.length≤24):PrI L w0 w' B R S0 {S with s:={S.s with ts:=ts} } PC lf v acc p :=
 ⟨hb,h.e,hn,ht,h.w.trans hw,h.k.trans hk,hk _ _ _ h.pb (by decide) (by decide),hk _ _ _ h.qb (by decide) (by decide),h.o.keepT hk⟩
theorem PrI.off {w0 wr:World} {lf p:Int} {v:Value} (qb:wr.heap[w0.heap.size+1]?=some (.cells #[.int .i64 lf,v,.int .i64 p] 45 (0,0))):Off wr w0.heap.size (some (w0.heap.size+1)):=⟨fun g e=>by
 injection e with e
 subst e
 exact⟨_,_,qb,by decide,by decide,by decide,.inr (by omega)⟩⟩
theorem PrI.setQ {L:List Int} {w0 wr:World} {B R:Nat} {S0 S:St} {PC:Array Value} {lf p p':Int} {v v':Value} {acc:List Int} (h:PrI L w0 wr B R S0 S PC lf v acc p) (j:Nat) (u:Value) (hu:(#[.int .i64 lf,v,.int .i64 p]:Array Value).setIfInBounds j u=#[.int .i64 lf,v',.int .i64 p']) (ho:bE (wr.setCell ⟨w0.heap.size+1,j,none⟩ u) w0.heap.size v' acc) (hB:B≤w0.heap.size):PrI L w0 (wr.setCell ⟨w0.heap.size+1,j,none⟩ u) B R S0 S PC lf v' acc p':=by
 have hg:wr.grownBy (wr.setCell ⟨w0.heap.size+1,j,none⟩ u) (some (w0.heap.size+1)):=aD (World.grownBy.refl _ _) j u
 refine⟨h.b.grown hg (PrI.off h.qb),h.e,h.n,h.t,h.w.setCell (by simp only;omega) u,h.k.beyond hg (fun k e=>by injection e with e;omega),(Below.heap_setCell wr ⟨w0.heap.size+1,j,none⟩ u w0.heap.size (by simp only;omega)).trans h.pb,?_,ho⟩
 rw[←hu]
 exact heap_setCell_same wr _ j _ _ u h.qb
theorem bE.set_away {w:World} {base g:Nat} {v:Value} {xs:List Int} {cs:Array Value} (h:bE w base v xs) (hg:w.heap[g]?=some (.cells cs 45 (0,0))) (j:Nat) (u:Value):bE (w.setCell ⟨g,j,none⟩ u) base v xs :=
 World.ownsRow.kept h (aD (World.grownBy.refl _ _) j u) (aN h hg (fun cur e=>by injection e with _ e;cases e))
theorem za8 (w:World) (base:Nat):bE w base (.slice none 0 0) []:=bE.nil w base
theorem PrI.app {L:List Int} {w0 wr w':World} {B R:Nat} {S0 S:St} {PC:Array Value} {lf p:Int} {v v':Value} {acc acc':List Int} (h:PrI L w0 wr B R S0 S PC lf v acc p) (ho:bE w' w0.heap.size v' acc') (hg:wr.grownBy w' v.ownBlock) (hB:B≤w0.heap.size) :
  (w'.heap[w0.heap.size+1]?=some (.cells #[.int .i64 lf,v,.int .i64 p] 45 (0,0)))∧PrI L w0 (w'.setCell ⟨w0.heap.size+1,1,none⟩ v') B R S0 S PC lf v' acc' p:=by
 have hb':=h.b.grown hg h.o.off
 have pb':=zad h.pb h.o (by decide) hg
 have qb':=zad h.qb h.o (by decide) hg
 have hN:∀k,v.ownBlock=some k→w0.heap.size≤k:=fun k e=>(aF h.o e).1
 have hw':=h.w.grown hg (Nat.le_trans hB h.w.size) (fun k e=>Nat.le_trans hB (hN k e))
 have hk':=h.k.beyond hg hN
 have hg2:w'.grownBy (w'.setCell ⟨w0.heap.size+1,1,none⟩ v') (some (w0.heap.size+1)):=aD (World.grownBy.refl _ _) 1 v'
 exact⟨qb',hb'.grown hg2 (PrI.off qb'),h.e,h.n,h.t,hw'.setCell (by simp only;omega) v',hk'.beyond hg2 (fun k e=>by injection e with e;omega),(Below.heap_setCell w' ⟨w0.heap.size+1,1,none⟩ v' w0.heap.size (by simp only;omega)).trans pb',heap_setCell_same w' _ 1 _ _ v' qb',ho.set_away qb' 1 v'⟩
theorem PrI.ns {L:List Int} {w0 wr:World} {B R:Nat} {S0 S:St} {PC:Array Value} {lf p:Int} {v:Value} {acc:List Int} (h:PrI L w0 wr B R S0 S PC lf v acc p):S.ns=S0.ns∧S.rs=S0.rs:=⟨(congrArg St.ns (h.e [])).symm,(congrArg St.rs (h.e [])).symm⟩
theorem ziY (L:List Int) (B R:Nat) (S:St) (pr:Y.Prd) (A:Option Addr) (c:Nat) (w:World) (hb:Bld L w B w.heap.size R S) (hd:zln pr) (hr:zjF L w B A pr.r) (hN:Gm.Nin S.s.ts S.ns) (ht:S.s.ts.length≤24) (hln:0≤Gm.find S.ns pr.l.t) (hB:B≤w.heap.size) (hrs:S.rs.length≤1000) :
  Calls Tryz.prog 88 #[.pointer (some ⟨R,0,none⟩),.agg (aY L pr A c)] w fun e w'=>zlu L w' B R S (prR S.ns S.s.ts S.rs pr) e∧Below B w w'∧aP w w':=by
 have SC:=fun a w m X Y=>show(store a (.complex .f64 X Y) m).run Tryz.prog w=stored Tryz.prog w a (.complex .f64 X Y) m from run_store _ w a _ m rfl
 have hR0:=hb.lt.1
 obtain⟨d1,d2,d3,d4⟩:=hd
 have HTX:=aA (Gm.tx_named ⟨(by unfold Gm.named;rw[d1.1];rfl:Gm.named pr.l.t=true),d1.2⟩)
 have HR:=aA hr
 have HDX:=aA (fun(i:Nat) (hi:i<pr.r.length)=>d2 _ (List.getElem_mem hi))
 have HDP:=aA d3
 have HN:=aA hN
 have HT:=aA ht
 have hfl:=Gm.find_lt S.ns pr.l.t
 have hNl:=hN.c
 obtain⟨vT,vN,vR,Ms,Mt,ml,tl,h⟩:=id hb
 have HH:=aA h
 have hnt:¬0≤Gm.find (Gm.names S.s.ts) pr.l.t:=fun q=>by
  obtain⟨i,_,hi,e⟩:=Gm.find_some hln
  have:=hN.no _ (List.getElem_mem hi)
  rw[e]at this
  have:=Gm.find_none.2 this
  omega
 obtain⟨z,hz⟩:∃z,z = -1-Gm.find S.ns pr.l.t:=⟨_,rfl⟩
 have he:bL S.s.ts S.ns pr.l.t=some (.int .i64 z):=by unfold bL;rw[if_neg hnt,if_pos hln,hz]
 have HLF:Hid (-1-z=Gm.find S.ns pr.l.t):=aA (by omega)
 have HNN:=aA (fun y=>zbF z (by omega) (by omega) y)
 obtain⟨lf,hlf⟩:∃lf,lf = -1-z:=⟨_,rfl⟩
 rw[←hlf]at HNN HLF
 obtain⟨w1,hw1⟩:∃w1,w1=w.alloc (.cells (aY L pr A c) 104):=⟨_,rfl⟩
 have H1:Hid (BldAt L w1 B w.heap.size R S vT vN vR Ms Mt ml tl):=aA (by rw[hw1];exact h.grown (World.grownBy_alloc w _ .none) (Off.none _ _))
 have HP1:Hid (w1.heap[w.heap.size]?=some (.cells (aY L pr A c) 104 (0,0))):=aA (by rw[hw1];exact heap_alloc_new w _)
 have hs1:w1.heap.size=w.heap.size+1:=by rw[hw1];simp
 have HW1:Hid (Below B w w1):=aA (by rw[hw1];exact(Below.refl B w).alloc hB _)
 have HK1:Hid (aJ w w1):=aA (by rw[hw1];exact aJ.below ((Below.refl _ _).alloc (Nat.le_refl _) _))
 have CLK:∀y:Calm.On w1.heap.size w1,(Instr.lookup 87 (.map (some Ms)) (.string (K.str pr.l.t)) false).run Tryz.prog y.1=.ok (.int .i64 z) y.1:=fun y=>by
  have hy:=H1.out.below y.2
  have:=Mw.run_look (x:=pr.l.t) hy.w.ms zgU Tryz.underlying87 (zaP y.1) HTX.out false
  rw[if_neg (by simp),hy.so pr.l.t,he]at this
  exact this
 have C4:∀y:Calm.On w1.heap.size w1,y.1.cell? ⟨R,4,none⟩=some (.map (some Ms)):=fun y=>((H1.out.below y.2).w.at 4).1
 have D0:∀y:Calm.On w1.heap.size w1,y.1.cell? ⟨w.heap.size,0,none⟩=some (.string (K.str pr.l.t)):=fun y=>cell_of_row y.1 _ 0 _ _ _ ((y.2.block w.heap.size (by omega)).trans HP1.out)
 have HRB:=aA (fun y=>zfW lf y)
 unfold aY at HP1 hw1 ⊢
 clear h hb hr hN ht d1 d2 d3 he hnt hz hlf hln
 go_enter Tryz.func88,Tryz.ntmps88
 go_upto_region 1 with fail
 rw[←hw1]
 clear hw1
 have HDa:=aA (aB (Below.refl w1.heap.size w1) 1)
 have HDb:=aA (fun o=>(aB (Below.refl w1.heap.size w1) 1).alloc (Nat.le_refl _) o)
 have RB:=HRB.out
 refine CalmN.region_tree (fun x=>∃y:Calm.On w1.heap.size w1,x=y.1) (.two [0,1,2,3,4,5,6,7] 8 (.one [9] 10 (.one [] 11 (.fin []))) 10 (.one [] 8 (.one [9] 11 (.fin [])))) (by kernel_rfl) (by kernel_rfl) (fun _ _ d _ _ h=>by cases d <;> exact h) ⟨⟨w1.drew,HDa.out⟩,rfl⟩ ?_
 simp only[CalmN.wpT,CalmN.wpSt,CalmN.pickOps,List.getElem?_toArray,List.getElem?_cons_zero,List.getElem?_cons_succ]
 repeat (go_big_quiet_step (fail))
 refine wpQuiet_nil ?_
 clear C4 D0 CLK
 have HPQ:Hid (PrI L w (w1.drew.alloc (.cells #[.int .i64 lf,.slice none 0 0,.int .i64 (-1)] 45)) B R S S #[.string (K.str pr.l.t),.complex .f64 (rfX L pr.l) (rfY L pr.l),.slice A pr.r.length c,.string (soS pr.p),.complex .f64 (soX L pr.p) (soY L pr.p)] lf (.slice none 0 0) [] (-1)):=aA (by
  have hd1:Below w1.heap.size w1 w1.drew:=HDa.out
  have hq:=heap_alloc_new w1.drew (.cells #[.int .i64 lf,.slice none 0 0,.int .i64 (-1)] 45)
  have hds:w1.drew.heap.size=w.heap.size+1:=hs1
  rw[hds]at hq
  exact⟨⟨vT,vN,vR,Ms,Mt,ml,tl,(H1.out.below hd1).grown (World.grownBy_alloc _ _ .none) (Off.none _ _)⟩,fun _=>rfl,HN.out,HT.out,(HW1.out.trans (hd1.mono (by omega))).alloc (by omega) _,(HK1.out.trans (aJ.below hd1)).trans (aJ.below ((Below.refl _ _).alloc (Nat.le_refl _) _)),(Below.heap_alloc _ _ w.heap.size (by omega)).trans HP1.out,hq,za8 _ _⟩)
 refine⟨?_,?_⟩
 ·intro KK hKK
  rw[if_pos (by rfl)]
  go_wp2_with fail
  refine(HNN.out _).mono ?_;rintro _ w5 ⟨rfl,hw5⟩
  subst hw5
  go_wp2_with fail
  refine hKK _ _ ⟨⟨_,HDa.out⟩,rfl⟩ (fun x=>∃y:Calm.On w1.heap.size w1,x=y.1) (fun _ h=>h) ⟨⟨_,HDa.out⟩,rfl⟩ ?_
  repeat (go_big_quiet_step (fail))
  refine wpQuiet_nil ?_
  intro KK hKK
  rw[if_pos (by rfl)]
  go_wp2_with fail
  refine hKK _ _ ⟨⟨_,HDb.out _⟩,rfl⟩ (fun x=>∃y:Calm.On w1.heap.size w1,x=y.1) (fun _ h=>h) ⟨⟨_,HDb.out _⟩,rfl⟩ ?_
  refine wpQuiet_nil ?_
  intro KK hKK
  rw[if_pos (by rfl)]
  go_wp2_with fail
  refine hKK _ _ ⟨⟨_,HDb.out _⟩,rfl⟩ (fun x=>∃y:Calm.On w1.heap.size w1,x=y.1) (fun _ h=>h) ⟨⟨_,HDb.out _⟩,rfl⟩ ?_
  refine wpQuiet_nil ?_
  clear hKK RB
  generalize rfX L pr.l=X0 at *
  generalize rfY L pr.l=Y0 at *
  generalize K.str pr.l.t=s0 at *
  obtain⟨wq,hwq⟩:∃x,x=(w1.alloc (.cells #[.int .i64 lf,.slice none 0 0,.int .i64 (-1)] 45)).drew:=⟨_,rfl⟩
  rw[←hwq]
  have HPX:Hid (PrI L w wq B R S S #[.string s0,.complex .f64 X0 Y0,.slice A pr.r.length c,.string (soS pr.p),.complex .f64 (soX L pr.p) (soY L pr.p)] lf (.slice none 0 0) [] (-1)):=aA (by rw[hwq];exact HPQ.out)
  have p2:wq.cell? ⟨w.heap.size,2,none⟩=some (.slice A pr.r.length c):=cell_of_row wq _ 2 _ _ _ HPX.out.pb
  have hPs:=(Array.getElem?_eq_some_iff.1 HPX.out.pb).1
  clear HH H1 HP1 HDa HDb HNN HRB HW1 HK1 HTX hs1 hwq HPQ
  go_wp2
  go_loopw [26] (fun vi wr=>∃(i:Nat) (S':St) (acc:List Int) (p:Int) (v:Value),i≤pr.r.length∧vi=.int .i64 i∧acc.length=i∧Hid (Gm.rights S.ns S.s.ts [] (-1) pr.r=Gm.rights S.ns S'.s.ts acc p (pr.r.drop i))∧Hid (PrI L w wr B R S S' #[.string s0,.complex .f64 X0 Y0,.slice A pr.r.length c,.string (soS pr.p),.complex .f64 (soX L pr.p) (soY L pr.p)] lf v acc p)) (fun vi _=>pr.r.length-(intOf vi).toNat)
  case atStart=>exact⟨0,S,[],-1,.slice none 0 0,Nat.zero_le _,rfl,rfl,aA rfl,HPX⟩
  case round =>
   clear HPX p2 hPs
   obtain⟨i,S',acc,p,v,hi,rfl,hai,HE,HP⟩:=hrel
   have HAI:=aA hai
   have p0:wr.cell? ⟨w.heap.size,0,none⟩=some (.string s0):=cell_of_row wr _ 0 _ _ _ HP.out.pb
   have p1:wr.cell? ⟨w.heap.size,1,none⟩=some (.complex .f64 X0 Y0):=cell_of_row wr _ 1 _ _ _ HP.out.pb
   have p2:wr.cell? ⟨w.heap.size,2,none⟩=some (.slice A pr.r.length c):=cell_of_row wr _ 2 _ _ _ HP.out.pb
   have p3:wr.cell? ⟨w.heap.size,3,none⟩=some (.string (soS pr.p)):=cell_of_row wr _ 3 _ _ _ HP.out.pb
   have p4:wr.cell? ⟨w.heap.size,4,none⟩=some (.complex .f64 (soX L pr.p) (soY L pr.p)):=cell_of_row wr _ 4 _ _ _ HP.out.pb
   have hPs:=(Array.getElem?_eq_some_iff.1 HP.out.pb).1
   clear hai
   by_cases hlt:i<pr.r.length
   ·obtain⟨g,o,rfl,hgB,hc⟩:=HR.out (by omega)
    have k0:=(HP.out.w.cell (p:=⟨g,o+i*2,none⟩) hgB).trans (hc i hlt).1
    have k1:=(HP.out.w.cell (p:=⟨g,o+i*2+1,none⟩) hgB).trans (hc i hlt).2
    have hBs:=HP.out.w.size
    have hgs:g<wr.heap.size:=by omega
    have hx:=HDX.out i hlt
    obtain⟨x,qx⟩:∃x,x=pr.r[i]:=⟨_,rfl⟩
    have HD:=aA (zaR (ns:=S.ns) (ts:=S'.s.ts) (acc:=acc) (p:=p) hlt)
    rw[←qx]at k0 k1 hx HD
    clear hc qx p3 p4
    obtain⟨X,hX⟩:∃X,X=rfX L x:=⟨_,rfl⟩
    obtain⟨Y,hY⟩:∃Y,Y=rfY L x:=⟨_,rfl⟩
    rw[←hX,←hY]at k1
    have HXY:=aA (And.intro hX hY)
    have HPA:=aA (HP.out.alloc (.cells #[.string (K.str x.t),.complex .f64 X Y] 90) hB)
    have HCR:=aA (heap_alloc_new wr (.cells #[.string (K.str x.t),.complex .f64 X Y] 90))
    have HC:=aA (zcY L B w.heap.size R S' i x.t _ HPA.out.b (Gm.tx_named hx) hx.1 (Nat.le_trans hB HPA.out.w.size) HPA.out.t)
    have HNS:Hid (Gm.Nin S'.s.ts S'.ns):=aA HP.out.n
    have HSN:Hid (S'.ns=S.ns):=aA HP.out.ns.1
    have HXN:=aA hx
    clear hX hY hx
    by_cases h6:i=6
    ·have HX:=aA (HE.out.trans (HD.out.trans (if_pos (by rw[HAI.out];exact h6))))
     have hra:RiA S' i x.t=(0,5,S'):=by unfold RiA;rw[if_pos h6]
     rw[hra]at HC
     clear hra h6
     generalize K.str x.t=sx at *
     go_wp2_with fail
     refine HC.out.mono ?_;rintro _ w2 ⟨rfl,hb2,hw2,hk2⟩
     have H2:=aA (And.intro (HPA.out.w.trans hw2) (HPA.out.k.trans hk2))
     have hrr:=hk2 _ _ _ HCR.out (by decide) (by decide)
     have r1:=cell_of_row w2 _ 1 _ _ _ hrr
     have hrz:=(Array.getElem?_eq_some_iff.1 hrr).1
     clear hb2 hw2 hk2 hrr
     go_wp2
     go_ret2
     refine⟨?_,H2.out.1,H2.out.2.a⟩
     rw[zdy HX.out]
     exact⟨by decide,by rw[HXY.out.1,HXY.out.2];rfl⟩
    have HD1:=aA (HD.out.trans (if_neg (by rw[HAI.out];exact h6)))
    have hra:RiA S' i x.t=SyA S' x.t:=by unfold RiA;rw[if_neg h6]
    rw[hra]at HC
    have HSY:=aA (zeQ (S:=S') (x:=x) HNS.out)
    cases q:Gm.symR S.ns S'.s.ts x with
    | bad y er =>
     have HX:=aA (HE.out.trans (HD1.out.trans (by rw[q,Gm.R.bind_bad])))
     obtain⟨u1,u2,u3⟩:=HSY.out.2 y er (by rw[HSN.out];exact q)
     subst u3
     rw[u1]at HC
     have her:(er != 0)=true:=by simpa using u2
     have HER:=aA u2
     clear hra h6 HSY u1 u2 q HD HD1
     generalize (SyA S' y.t).1=z1 at *
     generalize (SyA S' y.t).2.2=S2 at *
     generalize K.str y.t=sx at *
     go_wp2_with fail
     refine HC.out.mono ?_;rintro _ w2 ⟨rfl,hb2,hw2,hk2⟩
     have H2:=aA (And.intro (HPA.out.w.trans hw2) (HPA.out.k.trans hk2))
     have hrr:=hk2 _ _ _ HCR.out (by decide) (by decide)
     have r1:=cell_of_row w2 _ 1 _ _ _ hrr
     have hrz:=(Array.getElem?_eq_some_iff.1 hrr).1
     clear hb2 hw2 hk2 hrr
     go_wp2
     go_ret2
     refine⟨?_,H2.out.1,H2.out.2.a⟩
     rw[zdy HX.out]
     exact⟨HER.out,by rw[HXY.out.1,HXY.out.2];rfl⟩
    | ok qq =>
     obtain⟨ts',zz⟩:=qq
     have HX:=aA (HE.out.trans (HD1.out.trans (by rw[q,Gm.R.bind_ok])))
     have hsy:=HSY.out.1 ts' zz (by rw[HSN.out];exact q)
     rw[hsy]at HC
     have HNN2:Hid (Gm.Nin ts' S'.ns):=aA (by have h:=HNS.out;rw[HSN.out]at h ⊢;exact(Gm.symR_ok h HXN.out q).1.n)
     have HTL:Hid (ts'.length≤24):=aA (zft q HPA.out.t)
     have HIT:=aA (fun y=>zag zz y)
     clear hra h6 HSY hsy q HD HD1
     generalize K.str x.t=sx at *
     go_wp2_with fail
     refine HC.out.mono ?_;rintro _ w2 ⟨rfl,hb2,hw2,hk2⟩
     have HP2:=aA (HPA.out.call hb2 hw2 hk2 HNN2.out HTL.out)
     obtain⟨Av,nv,cv,hvv⟩:=zab HP2.out.o
     subst hvv
     have q1:w2.cell? ⟨w.heap.size+1,1,none⟩=some (.slice Av nv cv):=cell_of_row w2 _ 1 _ _ _ HP2.out.qb
     have hQs:=(Array.getElem?_eq_some_iff.1 HP2.out.qb).1
     have HP3:=aA (HP2.out.alloc (.cells #[.int .i64 zz] 3) hB)
     have HS2:Hid (w.heap.size≤w2.heap.size):=aA HP2.out.w.size
     have hil:acc.length≤1000000000000:=by have:=HAI.out;omega
     clear hb2 hw2 hk2
     go_wp2_with (refine zbO rfl (.tmp 45) (.tmp 47) _ rfl Tryz.underlying43 w.heap.size _ acc rfl HP3.out.o _ _ zz rfl (aH w2 [.int .i64 zz] 3 0) hil (by have:=HS2.out;simp;omega) ?_;intro v4 w4 ho4 hg4;obtain⟨A4,n4,c4,rfl⟩:=zab ho4;have happ:=aA (HP3.out.app ho4 hg4 hB);have q41:w4.cell? ⟨w.heap.size+1,1,none⟩=some (.slice Av nv cv):=cell_of_row w4 _ 1 _ _ _ happ.out.1;have q42:w4.cell? ⟨w.heap.size+1,2,none⟩=some (.int .i64 p):=cell_of_row w4 _ 2 _ _ _ happ.out.1;have f41:=frozen_of_row w4 _ 1 _ _ happ.out.1;have f42:=frozen_of_row w4 _ 2 _ _ happ.out.1;have hQ4:=(Array.getElem?_eq_some_iff.1 happ.out.1).1;clear ho4 hg4)
     refine(HIT.out _).mono ?_;rintro _ w5 ⟨rfl,hw5⟩
     subst hw5
     by_cases hzp:0≤zz
     ·rw[if_pos hzp]at HX
      have e:decide (0≤zz)=true:=decide_eq_true hzp
      go_wp2
      go_roundw
      case rel=>exact⟨i+1,_,acc++[zz],zz,.slice A4 n4 c4,hlt,by go_num,by rw[List.length_append,List.length_singleton,HAI.out],HX,aA (happ.out.2.setQ 2 (.int .i64 zz) rfl (happ.out.2.o.set_away happ.out.2.qb 2 _) hB)⟩
      case measure=>simp[intOf];omega
     ·rw[if_neg hzp]at HX
      have e:decide (0≤zz)=false:=decide_eq_false hzp
      go_wp2
      go_roundw
      case rel=>exact⟨i+1,_,acc++[zz],p,.slice A4 n4 c4,hlt,by go_num,by rw[List.length_append,List.length_singleton,HAI.out],HX,aA happ.out.2⟩
      case measure=>simp[intOf];omega
   ·obtain rfl:i=pr.r.length:=by omega
    have HX:=aA (HE.out.trans (zbg (Nat.le_refl _)))
    cases hpp:pr.p with
    | none =>
     have HPP:=aA hpp
     replace p3:wr.cell? ⟨w.heap.size,3,none⟩=some (.string ⟨#[]⟩):=by rw[p3,hpp];rfl
     clear hpp p0 p1 p2 p4
     obtain⟨wz,hwz⟩:∃x,x=wr:=⟨_,rfl⟩
     rw[←hwz]at p3 hPs HP ⊢
     clear hwz
     obtain⟨vT',vN',vR',Ms',Mt',ml',tl',hfin⟩:=HP.out.b
     have HFB:=aA hfin
     obtain⟨AR,cR,hvR,_,_⟩:=aM hfin.w.r
     subst hvR
     obtain⟨Av,cv,hvv,hv1,hv2,hrow⟩:=HP.out.o.row hB
     subst hvv
     have c2:wz.cell? ⟨R,2,none⟩=some (.slice AR S'.rs.length cR):=(hfin.w.at 2).1
     have hRs:=(hfin.w.at 2).2.2
     have hQs:=(Array.getElem?_eq_some_iff.1 HP.out.qb).1
     have HROW:=aA (And.intro hv1 (And.intro hv2 hrow))
     have HRSL:Hid (S'.rs.length≤1000):=aA (by rw[HP.out.ns.2];exact hrs)
     clear hfin hrow hv1 hv2
     go_wp2_with fail
     have E0:∀y:Calm.OnB (w.heap.size+1) wz,y.1.cell? ⟨w.heap.size+1,0,none⟩=some (.int .i64 lf):=fun y=>cell_of_row y.1 _ 0 _ _ _ (y.2.trans HP.out.qb)
     have E1:∀y:Calm.OnB (w.heap.size+1) wz,y.1.cell? ⟨w.heap.size+1,1,none⟩=some (.slice Av acc.length cv):=fun y=>cell_of_row y.1 _ 1 _ _ _ (y.2.trans HP.out.qb)
     have E2:∀y:Calm.OnB (w.heap.size+1) wz,y.1.cell? ⟨w.heap.size+1,2,none⟩=some (.int .i64 p):=fun y=>cell_of_row y.1 _ 2 _ _ _ (y.2.trans HP.out.qb)
     refine CalmN.region_tree (fun x=>∃y:Calm.OnB (w.heap.size+1) wz,x=y.1) (.two [0,1,2,3,4,6] 5 (.one [] 7 (.one [] 8 (.one [9,10,11] 12 (.fin [])))) 7 (.one [] 5 (.one [] 8 (.one [9,10,11] 12 (.fin []))))) (by kernel_rfl) (by kernel_rfl) (fun _ _ d _ _ h=>by cases d <;> exact h) ⟨⟨wz.drew,rfl⟩,rfl⟩ ?_
     simp only[CalmN.wpT,CalmN.wpSt,CalmN.pickOps,List.getElem?_toArray,List.getElem?_cons_zero,List.getElem?_cons_succ]
     repeat (go_big_quiet_step (fail))
     refine wpQuiet_nil ?_
     clear E0 E1 E2
     have HQ1:=aA (fun o=>(Below.heap_alloc wz o (w.heap.size+1) hQs))
     refine⟨?_,?_⟩
     ·intro KK hKK
      rw[if_pos (by rfl)]
      go_wp2_with fail
      refine hKK _ _ ⟨⟨wz.drew,rfl⟩,rfl⟩ (fun x=>∃y:Calm.OnB (w.heap.size+1) wz,x=y.1) (fun _ h=>h) ⟨⟨wz.drew,rfl⟩,rfl⟩ ?_
      refine wpQuiet_nil ?_
      intro KK hKK
      rw[if_pos (by rfl)]
      go_wp2_with fail
      refine hKK _ _ ⟨⟨(wz.alloc _).drew,HQ1.out _⟩,rfl⟩ (fun x=>∃y:Calm.OnB (w.heap.size+1) wz,x=y.1) (fun _ h=>h) ⟨⟨(wz.alloc _).drew,HQ1.out _⟩,rfl⟩ ?_
      refine wpQuiet_nil ?_
      intro KK hKK
      rw[if_pos (by rfl)]
      obtain⟨wy,hwy⟩:∃x,x=(wz.alloc (.cells #[.int .i64 lf,.slice Av acc.length cv,.int .i64 p] 45)).drew:=⟨_,rfl⟩
      rw[←hwy]
      have A0:Hid (BRaw wy B w.heap.size R (zbe L vT' vN' (.slice AR S'.rs.length cR) Ms' Mt' S') vT' vN' (.slice AR S'.rs.length cR) S'.s.ts S'.ns S'.rs Ms' Mt' ml' tl'):=aA (by rw[hwy];exact(HFB.out.w.alloc (.cells #[.int .i64 lf,.slice Av acc.length cv,.int .i64 p] 45)).grown (aE _ none) (Off.none _ _))
      have HWY:Hid (Below B w wy):=aA (by rw[hwy];exact aB (HP.out.w.alloc (Nat.le_trans hB HP.out.w.size) _) 1)
      have HKY:Hid (aJ w wy):=aA (by rw[hwy];exact HP.out.k.trans (aJ.below (aB ((Below.refl _ _).alloc (Nat.le_refl _) _) 1)))
      have HQY:Hid (wy.heap[w.heap.size+1]?=wz.heap[w.heap.size+1]?):=aA (by rw[hwy];exact HQ1.out _)
      have HZC:Hid (∀j u,(rlC (⟨lf,acc,p⟩,Av,cv))[j]?=some u→wy.cell? ⟨wz.heap.size,j,none⟩=some u):=aA (fun j u hj=>by rw[hwy];exact(aH wz (rlC (⟨lf,acc,p⟩,Av,cv)) 45 j).trans hj)
      have HRW:Hid (bP wy B wy.heap.size Av acc):=aA (by
       rw[hwy]
       exact(HROW.out.2.2.grown (w':=(wz.alloc (.cells #[.int .i64 lf,.slice Av acc.length cv,.int .i64 p] 45)).drew) (row:=none) ((World.grownBy_alloc wz (.cells #[.int .i64 lf,.slice Av acc.length cv,.int .i64 p] 45) none).trans (aE _ none)) (fun g e=>by cases e)).more (by show wz.heap.size≤(wz.alloc _).heap.size;simp))
      have HSW:Hid (w.heap.size≤wy.heap.size):=aA HWY.out.size
      clear hwy
      refine zal (.tmp 80) (.tmp 82) _ rfl Tryz.underlying24 B w.heap.size _ S'.rs rfl A0.out.r _ _ (⟨lf,acc,p⟩,Av,cv) rfl HZC.out ⟨HROW.out.1,HROW.out.2.1,HRW.out⟩ (Nat.le_trans HRSL.out (by decide)) (Nat.le_trans hB HSW.out) HSW.out ?_
      intro v8 w8 ho8 hg8
      have A1:=aA ((A0.out.more (Nat.le_trans HSW.out hg8.size)).r_put ho8 hg8)
      obtain⟨A8,c8,rfl,_,_⟩:=aM ho8
      have HQ8:Hid (w8.heap[w.heap.size+1]?=wz.heap[w.heap.size+1]?):=aA ((hg8.block (w.heap.size+1) (by have:=(Array.getElem?_eq_some_iff.1 (HQY.out.trans HP.out.qb)).1;exact this) (fun e=>by
       obtain⟨_,_,_,h3,_⟩:=A0.out.r
       have:=h3 _ e.symm
       omega)).trans HQY.out)
      have HK8:Hid (aP w w8):=aA (HKY.out.a.trans (by obtain⟨_,_,h2,_⟩:=A0.out.r;exact aP.own h2 hg8 (.inr (.inr rfl))))
      have HW8:Hid (Below B w w8):=aA (HWY.out.grown hg8 (Nat.le_trans hB HSW.out) (fun k e=>by obtain⟨_,_,h2,_⟩:=A0.out.r;exact(aF h2 e).1))
      obtain⟨n8,hn8⟩:∃n,n=(S'.rs++[(⟨lf,acc,p⟩:Gm.Rl)]).length:=⟨_,rfl⟩
      have c28:w8.cell? ⟨R,2,none⟩=some (.slice AR S'.rs.length cR):=(A1.out.at 2).1
      have f28:=(A1.out.at 2).2.1
      have hR8:=(A1.out.at 2).2.2
      rw[←hn8]at A1 ⊢
      have HN8:=aA hn8
      clear ho8 hg8 A0 hn8
      refine hKK _ _ ⟨⟨w8,HQ8.out⟩,rfl⟩ (fun x=>∃y:Calm.OnB (w.heap.size+1) wz,x=y.1) (fun _ h=>h) ⟨⟨w8,HQ8.out⟩,rfl⟩ ?_
      go_frame
      repeat (go_big_quiet_step (fail))
      refine wpQuiet_nil ?_
      intro KK hKK
      rw[if_pos (by rfl)]
      go_wp2_with fail
      have HQ9:=aA (fun u=>(Below.heap_setCell w8 ⟨R,2,none⟩ u (w.heap.size+1) (by simp only;omega)).trans HQ8.out)
      refine hKK _ _ ⟨⟨w8.setCell ⟨R,2,none⟩ _,HQ9.out _⟩,rfl⟩ (fun x=>∃y:Calm.OnB (w.heap.size+1) wz,x=y.1) (fun _ h=>h) ⟨⟨w8.setCell ⟨R,2,none⟩ _,HQ9.out _⟩,rfl⟩ ?_
      refine wpQuiet_nil ?_
      clear hKK
      go_wp2
      go_ret2
      refine⟨?_,HW8.out.setCell A1.out.hR _,HK8.out.trans (aP.cells (aD (World.grownBy.refl _ _) 2 _) A1.out.b (.inl rfl))⟩
      rw[zb0 HX.out HPP.out]
      refine⟨rfl,?_,by rw[←HP.out.ns.1];exact HP.out.n,HP.out.t⟩
      have hS:({S with s:={S.s with ts:=S'.s.ts},rs:=S.rs++[⟨Gm.find S.ns pr.l.t,acc,p⟩]}:St) = {S' with rs:=S'.rs++[⟨lf,acc,p⟩]}:=by
       rw[HP.out.ns.2,HLF.out]
       exact congrArg (fun T:St=>({T with rs:=S.rs++[⟨Gm.find S.ns pr.l.t,acc,p⟩]}:St)) (HP.out.e S'.s.ts)
      rw[aT]
      show Bld L _ B w8.heap.size R ({S with s:={S.s with ts:=S'.s.ts},rs:=S.rs++[⟨Gm.find S.ns pr.l.t,acc,p⟩]}:St)
      rw[hS]
      exact⟨vT',vN',_,Ms',Mt',ml',tl',⟨A1.out.set 2 _,HFB.out.so,HFB.out.ko⟩⟩
     ·intro KK hKK
      rw[if_pos (by rfl)]
      go_wp2_with fail
      refine hKK _ _ ⟨⟨(wz.alloc _).drew,HQ1.out _⟩,rfl⟩ (fun x=>∃y:Calm.OnB (w.heap.size+1) wz,x=y.1) (fun _ h=>h) ⟨⟨(wz.alloc _).drew,HQ1.out _⟩,rfl⟩ ?_
      refine wpQuiet_nil ?_
      intro KK hKK
      rw[if_pos (by rfl)]
      go_wp2_with fail
      refine hKK _ _ ⟨⟨(wz.alloc _).drew,HQ1.out _⟩,rfl⟩ (fun x=>∃y:Calm.OnB (w.heap.size+1) wz,x=y.1) (fun _ h=>h) ⟨⟨(wz.alloc _).drew,HQ1.out _⟩,rfl⟩ ?_
      refine wpQuiet_nil ?_
      intro KK hKK
      rw[if_pos (by rfl)]
      obtain⟨wy,hwy⟩:∃x,x=(wz.alloc (.cells #[.int .i64 lf,.slice Av acc.length cv,.int .i64 p] 45)).drew:=⟨_,rfl⟩
      rw[←hwy]
      have A0:Hid (BRaw wy B w.heap.size R (zbe L vT' vN' (.slice AR S'.rs.length cR) Ms' Mt' S') vT' vN' (.slice AR S'.rs.length cR) S'.s.ts S'.ns S'.rs Ms' Mt' ml' tl'):=aA (by rw[hwy];exact(HFB.out.w.alloc (.cells #[.int .i64 lf,.slice Av acc.length cv,.int .i64 p] 45)).grown (aE _ none) (Off.none _ _))
      have HWY:Hid (Below B w wy):=aA (by rw[hwy];exact aB (HP.out.w.alloc (Nat.le_trans hB HP.out.w.size) _) 1)
      have HKY:Hid (aJ w wy):=aA (by rw[hwy];exact HP.out.k.trans (aJ.below (aB ((Below.refl _ _).alloc (Nat.le_refl _) _) 1)))
      have HQY:Hid (wy.heap[w.heap.size+1]?=wz.heap[w.heap.size+1]?):=aA (by rw[hwy];exact HQ1.out _)
      have HZC:Hid (∀j u,(rlC (⟨lf,acc,p⟩,Av,cv))[j]?=some u→wy.cell? ⟨wz.heap.size,j,none⟩=some u):=aA (fun j u hj=>by rw[hwy];exact(aH wz (rlC (⟨lf,acc,p⟩,Av,cv)) 45 j).trans hj)
      have HRW:Hid (bP wy B wy.heap.size Av acc):=aA (by
       rw[hwy]
       exact(HROW.out.2.2.grown (w':=(wz.alloc (.cells #[.int .i64 lf,.slice Av acc.length cv,.int .i64 p] 45)).drew) (row:=none) ((World.grownBy_alloc wz (.cells #[.int .i64 lf,.slice Av acc.length cv,.int .i64 p] 45) none).trans (aE _ none)) (fun g e=>by cases e)).more (by show wz.heap.size≤(wz.alloc _).heap.size;simp))
      have HSW:Hid (w.heap.size≤wy.heap.size):=aA HWY.out.size
      clear hwy
      refine zal (.tmp 80) (.tmp 82) _ rfl Tryz.underlying24 B w.heap.size _ S'.rs rfl A0.out.r _ _ (⟨lf,acc,p⟩,Av,cv) rfl HZC.out ⟨HROW.out.1,HROW.out.2.1,HRW.out⟩ (Nat.le_trans HRSL.out (by decide)) (Nat.le_trans hB HSW.out) HSW.out ?_
      intro v8 w8 ho8 hg8
      have A1:=aA ((A0.out.more (Nat.le_trans HSW.out hg8.size)).r_put ho8 hg8)
      obtain⟨A8,c8,rfl,_,_⟩:=aM ho8
      have HQ8:Hid (w8.heap[w.heap.size+1]?=wz.heap[w.heap.size+1]?):=aA ((hg8.block (w.heap.size+1) (by have:=(Array.getElem?_eq_some_iff.1 (HQY.out.trans HP.out.qb)).1;exact this) (fun e=>by
       obtain⟨_,_,_,h3,_⟩:=A0.out.r
       have:=h3 _ e.symm
       omega)).trans HQY.out)
      have HK8:Hid (aP w w8):=aA (HKY.out.a.trans (by obtain⟨_,_,h2,_⟩:=A0.out.r;exact aP.own h2 hg8 (.inr (.inr rfl))))
      have HW8:Hid (Below B w w8):=aA (HWY.out.grown hg8 (Nat.le_trans hB HSW.out) (fun k e=>by obtain⟨_,_,h2,_⟩:=A0.out.r;exact(aF h2 e).1))
      obtain⟨n8,hn8⟩:∃n,n=(S'.rs++[(⟨lf,acc,p⟩:Gm.Rl)]).length:=⟨_,rfl⟩
      have c28:w8.cell? ⟨R,2,none⟩=some (.slice AR S'.rs.length cR):=(A1.out.at 2).1
      have f28:=(A1.out.at 2).2.1
      have hR8:=(A1.out.at 2).2.2
      rw[←hn8]at A1 ⊢
      have HN8:=aA hn8
      clear ho8 hg8 A0 hn8
      refine hKK _ _ ⟨⟨w8,HQ8.out⟩,rfl⟩ (fun x=>∃y:Calm.OnB (w.heap.size+1) wz,x=y.1) (fun _ h=>h) ⟨⟨w8,HQ8.out⟩,rfl⟩ ?_
      go_frame
      repeat (go_big_quiet_step (fail))
      refine wpQuiet_nil ?_
      intro KK hKK
      rw[if_pos (by rfl)]
      go_wp2_with fail
      have HQ9:=aA (fun u=>(Below.heap_setCell w8 ⟨R,2,none⟩ u (w.heap.size+1) (by simp only;omega)).trans HQ8.out)
      refine hKK _ _ ⟨⟨w8.setCell ⟨R,2,none⟩ _,HQ9.out _⟩,rfl⟩ (fun x=>∃y:Calm.OnB (w.heap.size+1) wz,x=y.1) (fun _ h=>h) ⟨⟨w8.setCell ⟨R,2,none⟩ _,HQ9.out _⟩,rfl⟩ ?_
      refine wpQuiet_nil ?_
      clear hKK
      go_wp2
      go_ret2
      refine⟨?_,HW8.out.setCell A1.out.hR _,HK8.out.trans (aP.cells (aD (World.grownBy.refl _ _) 2 _) A1.out.b (.inl rfl))⟩
      rw[zb0 HX.out HPP.out]
      refine⟨rfl,?_,by rw[←HP.out.ns.1];exact HP.out.n,HP.out.t⟩
      have hS:({S with s:={S.s with ts:=S'.s.ts},rs:=S.rs++[⟨Gm.find S.ns pr.l.t,acc,p⟩]}:St) = {S' with rs:=S'.rs++[⟨lf,acc,p⟩]}:=by
       rw[HP.out.ns.2,HLF.out]
       exact congrArg (fun T:St=>({T with rs:=S.rs++[⟨Gm.find S.ns pr.l.t,acc,p⟩]}:St)) (HP.out.e S'.s.ts)
      rw[aT]
      show Bld L _ B w8.heap.size R ({S with s:={S.s with ts:=S'.s.ts},rs:=S.rs++[⟨Gm.find S.ns pr.l.t,acc,p⟩]}:St)
      rw[hS]
      exact⟨vT',vN',_,Ms',Mt',ml',tl',⟨A1.out.set 2 _,HFB.out.so,HFB.out.ko⟩⟩
    | some x =>
     have HPP:=aA hpp
     have hxn:=HDP.out x hpp
     have hne:x.t≠[]:=fun e=>by have:=hxn.1;rw[e]at this;simp[Gm.named,T.isName,T.isLit]at this
     replace p3:wr.cell? ⟨w.heap.size,3,none⟩=some (.string (K.str x.t)):=by rw[p3,hpp];rfl
     obtain⟨X,hX⟩:∃X,X=rfX L x:=⟨_,rfl⟩
     obtain⟨Y,hY⟩:∃Y,Y=rfY L x:=⟨_,rfl⟩
     replace p4:wr.cell? ⟨w.heap.size,4,none⟩=some (.complex .f64 X Y):=by rw[p4,hpp,hX,hY];rfl
     have HXY:=aA (And.intro hX hY)
     have hsn:¬(K.str x.t).toList=[]:=by rw[K.str_list];intro e;exact hne (by simpa[K.bytes] using e)
     have HC:=aA (zei L B w.heap.size R S' x.t wr HP.out.b (Gm.tx_named hxn) hxn.1 (Nat.le_trans hB HP.out.w.size) HP.out.t)
     have HSN:Hid (S'.ns=S.ns):=aA HP.out.ns.1
     have HPA:=aA (zhB (S:=S') (x:=x) HP.out.n)
     cases q:Gm.symP S.ns S'.s.ts x with
     | bad y er =>
      obtain⟨u1,u2,u3⟩:=HPA.out.2 y er (by rw[HSN.out];exact q)
      subst u3
      have HX2:=aA (zfE (rs:=S.rs) HX.out HPP.out q)
      rw[u1]at HC
      have her:(er != 0)=true:=by simpa using u2
      have HER:=aA u2
      clear hX hY hpp hxn hne HPA u1 u2 q p0 p1 p2
      generalize (PrA S' y.t).1=z1 at *
      generalize (PrA S' y.t).2.2=S2 at *
      generalize K.str y.t=sx at *
      have hsn':sx.toList.isEmpty=false:=by simpa using hsn
      go_wp2_with fail
      refine HC.out.mono ?_;rintro _ w2 ⟨rfl,hb2,hw2,hk2⟩
      have H2:=aA (And.intro (HP.out.w.trans hw2) (HP.out.k.trans hk2))
      have hpb:=hk2 _ _ _ HP.out.pb (by decide) (by decide)
      have p4:w2.cell? ⟨w.heap.size,4,none⟩=some (.complex .f64 (soX L pr.p) (soY L pr.p)):=cell_of_row w2 _ 4 _ _ _ hpb
      have hPz:=(Array.getElem?_eq_some_iff.1 hpb).1
      have HSX:Hid (soX L pr.p=X∧soY L pr.p=Y):=aA (by rw[HPP.out,HXY.out.1,HXY.out.2];exact⟨rfl,rfl⟩)
      rw[HSX.out.1,HSX.out.2]at p4
      clear hb2 hw2 hk2 hpb
      go_wp2
      go_ret2
      refine⟨?_,H2.out.1,H2.out.2.a⟩
      rw[HX2.out]
      exact⟨HER.out,by rw[HXY.out.1,HXY.out.2];rfl⟩
     | ok qq =>
      obtain⟨ts2,z2⟩:=qq
      have hpa:=HPA.out.1 ts2 z2 (by rw[HSN.out];exact q)
      rw[hpa]at HC
      have HNN2:Hid (Gm.Nin ts2 S'.ns):=aA (by have h:=HP.out.n;rw[HSN.out]at h ⊢;exact(Gm.symP_ok h hxn q).1.n)
      have HTL:Hid (ts2.length≤24):=aA (zfu q HP.out.t)
      have HX2:=aA (zfD (rs:=S.rs) HX.out HPP.out q)
      clear hX hY hpp hxn hne HPA hpa q p0 p1 p2
      generalize K.str x.t=sx at *
      have hsn':sx.toList.isEmpty=false:=by simpa using hsn
      go_wp2_with fail
      refine HC.out.mono ?_;rintro _ w2 ⟨rfl,hb2,hw2,hk2⟩
      have HP2:=aA (HP.out.call hb2 hw2 hk2 HNN2.out HTL.out)
      have q2:w2.cell? ⟨w.heap.size+1,2,none⟩=some (.int .i64 p):=cell_of_row w2 _ 2 _ _ _ HP2.out.qb
      have f2:=frozen_of_row w2 _ 2 _ _ HP2.out.qb
      have hQ2:=(Array.getElem?_eq_some_iff.1 HP2.out.qb).1
      clear hb2 hw2 hk2 p3 p4
      go_upto_region 17 with fail
      obtain⟨wz,hwz⟩:∃x,x=w2.setCell ⟨w.heap.size+1,2,none⟩ (.int .i64 z2):=⟨_,rfl⟩
      rw[←hwz]
      have HPZ:Hid (PrI L w wz B R S {S' with s:={S'.s with ts:=ts2} } #[.string s0,.complex .f64 X0 Y0,.slice A pr.r.length c,.string (soS pr.p),.complex .f64 (soX L pr.p) (soY L pr.p)] lf v acc z2):=aA (by rw[hwz];exact HP2.out.setQ 2 (.int .i64 z2) rfl (HP2.out.o.set_away HP2.out.qb 2 _) hB)
      clear hwz q2 f2 hQ2
      obtain⟨vT',vN',vR',Ms',Mt',ml',tl',hfin⟩:=HPZ.out.b
      have HFB:=aA hfin
      obtain⟨AR,cR,hvR,_,_⟩:=aM hfin.w.r
      subst hvR
      obtain⟨Av,cv,hvv,hv1,hv2,hrow⟩:=HPZ.out.o.row hB
      subst hvv
      have c2:wz.cell? ⟨R,2,none⟩=some (.slice AR ({S' with s:={S'.s with ts:=ts2} }:St).rs.length cR):=(hfin.w.at 2).1
      have hRs:=(hfin.w.at 2).2.2
      have hQs:=(Array.getElem?_eq_some_iff.1 HPZ.out.qb).1
      have HROW:=aA (And.intro hv1 (And.intro hv2 hrow))
      have HRSL:Hid (({S' with s:={S'.s with ts:=ts2} }:St).rs.length≤1000):=aA (by rw[HPZ.out.ns.2];exact hrs)
      clear hfin hrow hv1 hv2
      go_wp2_with fail
      have E0:∀y:Calm.OnB (w.heap.size+1) wz,y.1.cell? ⟨w.heap.size+1,0,none⟩=some (.int .i64 lf):=fun y=>cell_of_row y.1 _ 0 _ _ _ (y.2.trans HPZ.out.qb)
      have E1:∀y:Calm.OnB (w.heap.size+1) wz,y.1.cell? ⟨w.heap.size+1,1,none⟩=some (.slice Av acc.length cv):=fun y=>cell_of_row y.1 _ 1 _ _ _ (y.2.trans HPZ.out.qb)
      have E2:∀y:Calm.OnB (w.heap.size+1) wz,y.1.cell? ⟨w.heap.size+1,2,none⟩=some (.int .i64 z2):=fun y=>cell_of_row y.1 _ 2 _ _ _ (y.2.trans HPZ.out.qb)
      refine CalmN.region_tree (fun x=>∃y:Calm.OnB (w.heap.size+1) wz,x=y.1) (.two [0,1,2,3,4,6] 5 (.one [] 7 (.one [] 8 (.one [9,10,11] 12 (.fin [])))) 7 (.one [] 5 (.one [] 8 (.one [9,10,11] 12 (.fin []))))) (by kernel_rfl) (by kernel_rfl) (fun _ _ d _ _ h=>by cases d <;> exact h) ⟨⟨wz.drew,rfl⟩,rfl⟩ ?_
      simp only[CalmN.wpT,CalmN.wpSt,CalmN.pickOps,List.getElem?_toArray,List.getElem?_cons_zero,List.getElem?_cons_succ]
      repeat (go_big_quiet_step (fail))
      refine wpQuiet_nil ?_
      clear E0 E1 E2
      have HQ1:=aA (fun o=>(Below.heap_alloc wz o (w.heap.size+1) hQs))
      refine⟨?_,?_⟩
      ·intro KK hKK
       rw[if_pos (by rfl)]
       go_wp2_with fail
       refine hKK _ _ ⟨⟨wz.drew,rfl⟩,rfl⟩ (fun x=>∃y:Calm.OnB (w.heap.size+1) wz,x=y.1) (fun _ h=>h) ⟨⟨wz.drew,rfl⟩,rfl⟩ ?_
       refine wpQuiet_nil ?_
       intro KK hKK
       rw[if_pos (by rfl)]
       go_wp2_with fail
       refine hKK _ _ ⟨⟨(wz.alloc _).drew,HQ1.out _⟩,rfl⟩ (fun x=>∃y:Calm.OnB (w.heap.size+1) wz,x=y.1) (fun _ h=>h) ⟨⟨(wz.alloc _).drew,HQ1.out _⟩,rfl⟩ ?_
       refine wpQuiet_nil ?_
       intro KK hKK
       rw[if_pos (by rfl)]
       obtain⟨wy,hwy⟩:∃x,x=(wz.alloc (.cells #[.int .i64 lf,.slice Av acc.length cv,.int .i64 z2] 45)).drew:=⟨_,rfl⟩
       rw[←hwy]
       have A0:Hid (BRaw wy B w.heap.size R (zbe L vT' vN' (.slice AR ({S' with s:={S'.s with ts:=ts2} }:St).rs.length cR) Ms' Mt' ({S' with s:={S'.s with ts:=ts2} }:St)) vT' vN' (.slice AR ({S' with s:={S'.s with ts:=ts2} }:St).rs.length cR) ({S' with s:={S'.s with ts:=ts2} }:St).s.ts ({S' with s:={S'.s with ts:=ts2} }:St).ns ({S' with s:={S'.s with ts:=ts2} }:St).rs Ms' Mt' ml' tl'):=aA (by rw[hwy];exact(HFB.out.w.alloc (.cells #[.int .i64 lf,.slice Av acc.length cv,.int .i64 z2] 45)).grown (aE _ none) (Off.none _ _))
       have HWY:Hid (Below B w wy):=aA (by rw[hwy];exact aB (HPZ.out.w.alloc (Nat.le_trans hB HPZ.out.w.size) _) 1)
       have HKY:Hid (aJ w wy):=aA (by rw[hwy];exact HPZ.out.k.trans (aJ.below (aB ((Below.refl _ _).alloc (Nat.le_refl _) _) 1)))
       have HQY:Hid (wy.heap[w.heap.size+1]?=wz.heap[w.heap.size+1]?):=aA (by rw[hwy];exact HQ1.out _)
       have HZC:Hid (∀j u,(rlC (⟨lf,acc,z2⟩,Av,cv))[j]?=some u→wy.cell? ⟨wz.heap.size,j,none⟩=some u):=aA (fun j u hj=>by rw[hwy];exact(aH wz (rlC (⟨lf,acc,z2⟩,Av,cv)) 45 j).trans hj)
       have HRW:Hid (bP wy B wy.heap.size Av acc):=aA (by
        rw[hwy]
        exact(HROW.out.2.2.grown (w':=(wz.alloc (.cells #[.int .i64 lf,.slice Av acc.length cv,.int .i64 z2] 45)).drew) (row:=none) ((World.grownBy_alloc wz (.cells #[.int .i64 lf,.slice Av acc.length cv,.int .i64 z2] 45) none).trans (aE _ none)) (fun g e=>by cases e)).more (by show wz.heap.size≤(wz.alloc _).heap.size;simp))
       have HSW:Hid (w.heap.size≤wy.heap.size):=aA HWY.out.size
       clear hwy
       refine zal (.tmp 80) (.tmp 82) _ rfl Tryz.underlying24 B w.heap.size _ ({S' with s:={S'.s with ts:=ts2} }:St).rs rfl A0.out.r _ _ (⟨lf,acc,z2⟩,Av,cv) rfl HZC.out ⟨HROW.out.1,HROW.out.2.1,HRW.out⟩ (Nat.le_trans HRSL.out (by decide)) (Nat.le_trans hB HSW.out) HSW.out ?_
       intro v8 w8 ho8 hg8
       have A1:=aA ((A0.out.more (Nat.le_trans HSW.out hg8.size)).r_put ho8 hg8)
       obtain⟨A8,c8,rfl,_,_⟩:=aM ho8
       have HQ8:Hid (w8.heap[w.heap.size+1]?=wz.heap[w.heap.size+1]?):=aA ((hg8.block (w.heap.size+1) (by have:=(Array.getElem?_eq_some_iff.1 (HQY.out.trans HPZ.out.qb)).1;exact this) (fun e=>by
        obtain⟨_,_,_,h3,_⟩:=A0.out.r
        have:=h3 _ e.symm
        omega)).trans HQY.out)
       have HK8:Hid (aP w w8):=aA (HKY.out.a.trans (by obtain⟨_,_,h2,_⟩:=A0.out.r;exact aP.own h2 hg8 (.inr (.inr rfl))))
       have HW8:Hid (Below B w w8):=aA (HWY.out.grown hg8 (Nat.le_trans hB HSW.out) (fun k e=>by obtain⟨_,_,h2,_⟩:=A0.out.r;exact(aF h2 e).1))
       obtain⟨n8,hn8⟩:∃n,n=(({S' with s:={S'.s with ts:=ts2} }:St).rs++[(⟨lf,acc,z2⟩:Gm.Rl)]).length:=⟨_,rfl⟩
       have c28:w8.cell? ⟨R,2,none⟩=some (.slice AR ({S' with s:={S'.s with ts:=ts2} }:St).rs.length cR):=(A1.out.at 2).1
       have f28:=(A1.out.at 2).2.1
       have hR8:=(A1.out.at 2).2.2
       rw[←hn8]at A1 ⊢
       have HN8:=aA hn8
       clear ho8 hg8 A0 hn8
       refine hKK _ _ ⟨⟨w8,HQ8.out⟩,rfl⟩ (fun x=>∃y:Calm.OnB (w.heap.size+1) wz,x=y.1) (fun _ h=>h) ⟨⟨w8,HQ8.out⟩,rfl⟩ ?_
       go_frame
       repeat (go_big_quiet_step (fail))
       refine wpQuiet_nil ?_
       intro KK hKK
       rw[if_pos (by rfl)]
       go_wp2_with fail
       have HQ9:=aA (fun u=>(Below.heap_setCell w8 ⟨R,2,none⟩ u (w.heap.size+1) (by simp only;omega)).trans HQ8.out)
       refine hKK _ _ ⟨⟨w8.setCell ⟨R,2,none⟩ _,HQ9.out _⟩,rfl⟩ (fun x=>∃y:Calm.OnB (w.heap.size+1) wz,x=y.1) (fun _ h=>h) ⟨⟨w8.setCell ⟨R,2,none⟩ _,HQ9.out _⟩,rfl⟩ ?_
       refine wpQuiet_nil ?_
       clear hKK
       go_wp2
       go_ret2
       refine⟨?_,HW8.out.setCell A1.out.hR _,HK8.out.trans (aP.cells (aD (World.grownBy.refl _ _) 2 _) A1.out.b (.inl rfl))⟩
       rw[HX2.out]
       refine⟨rfl,?_,by rw[←HPZ.out.ns.1];exact HPZ.out.n,HPZ.out.t⟩
       have hS:({S with s:={S.s with ts:=({S' with s:={S'.s with ts:=ts2} }:St).s.ts},rs:=S.rs++[⟨Gm.find S.ns pr.l.t,acc,z2⟩]}:St) = {({S' with s:={S'.s with ts:=ts2} }:St) with rs:=({S' with s:={S'.s with ts:=ts2} }:St).rs++[⟨lf,acc,z2⟩]}:=by
        rw[HPZ.out.ns.2,HLF.out]
        exact congrArg (fun T:St=>({T with rs:=S.rs++[⟨Gm.find S.ns pr.l.t,acc,z2⟩]}:St)) (HPZ.out.e ({S' with s:={S'.s with ts:=ts2} }:St).s.ts)
       rw[aT]
       show Bld L _ B w8.heap.size R ({S with s:={S.s with ts:=({S' with s:={S'.s with ts:=ts2} }:St).s.ts},rs:=S.rs++[⟨Gm.find S.ns pr.l.t,acc,z2⟩]}:St)
       rw[hS]
       exact⟨vT',vN',_,Ms',Mt',ml',tl',⟨A1.out.set 2 _,HFB.out.so,HFB.out.ko⟩⟩
      ·intro KK hKK
       rw[if_pos (by rfl)]
       go_wp2_with fail
       refine hKK _ _ ⟨⟨(wz.alloc _).drew,HQ1.out _⟩,rfl⟩ (fun x=>∃y:Calm.OnB (w.heap.size+1) wz,x=y.1) (fun _ h=>h) ⟨⟨(wz.alloc _).drew,HQ1.out _⟩,rfl⟩ ?_
       refine wpQuiet_nil ?_
       intro KK hKK
       rw[if_pos (by rfl)]
       go_wp2_with fail
       refine hKK _ _ ⟨⟨(wz.alloc _).drew,HQ1.out _⟩,rfl⟩ (fun x=>∃y:Calm.OnB (w.heap.size+1) wz,x=y.1) (fun _ h=>h) ⟨⟨(wz.alloc _).drew,HQ1.out _⟩,rfl⟩ ?_
       refine wpQuiet_nil ?_
       intro KK hKK
       rw[if_pos (by rfl)]
       obtain⟨wy,hwy⟩:∃x,x=(wz.alloc (.cells #[.int .i64 lf,.slice Av acc.length cv,.int .i64 z2] 45)).drew:=⟨_,rfl⟩
       rw[←hwy]
       have A0:Hid (BRaw wy B w.heap.size R (zbe L vT' vN' (.slice AR ({S' with s:={S'.s with ts:=ts2} }:St).rs.length cR) Ms' Mt' ({S' with s:={S'.s with ts:=ts2} }:St)) vT' vN' (.slice AR ({S' with s:={S'.s with ts:=ts2} }:St).rs.length cR) ({S' with s:={S'.s with ts:=ts2} }:St).s.ts ({S' with s:={S'.s with ts:=ts2} }:St).ns ({S' with s:={S'.s with ts:=ts2} }:St).rs Ms' Mt' ml' tl'):=aA (by rw[hwy];exact(HFB.out.w.alloc (.cells #[.int .i64 lf,.slice Av acc.length cv,.int .i64 z2] 45)).grown (aE _ none) (Off.none _ _))
       have HWY:Hid (Below B w wy):=aA (by rw[hwy];exact aB (HPZ.out.w.alloc (Nat.le_trans hB HPZ.out.w.size) _) 1)
       have HKY:Hid (aJ w wy):=aA (by rw[hwy];exact HPZ.out.k.trans (aJ.below (aB ((Below.refl _ _).alloc (Nat.le_refl _) _) 1)))
       have HQY:Hid (wy.heap[w.heap.size+1]?=wz.heap[w.heap.size+1]?):=aA (by rw[hwy];exact HQ1.out _)
       have HZC:Hid (∀j u,(rlC (⟨lf,acc,z2⟩,Av,cv))[j]?=some u→wy.cell? ⟨wz.heap.size,j,none⟩=some u):=aA (fun j u hj=>by rw[hwy];exact(aH wz (rlC (⟨lf,acc,z2⟩,Av,cv)) 45 j).trans hj)
       have HRW:Hid (bP wy B wy.heap.size Av acc):=aA (by
        rw[hwy]
        exact(HROW.out.2.2.grown (w':=(wz.alloc (.cells #[.int .i64 lf,.slice Av acc.length cv,.int .i64 z2] 45)).drew) (row:=none) ((World.grownBy_alloc wz (.cells #[.int .i64 lf,.slice Av acc.length cv,.int .i64 z2] 45) none).trans (aE _ none)) (fun g e=>by cases e)).more (by show wz.heap.size≤(wz.alloc _).heap.size;simp))
       have HSW:Hid (w.heap.size≤wy.heap.size):=aA HWY.out.size
       clear hwy
       refine zal (.tmp 80) (.tmp 82) _ rfl Tryz.underlying24 B w.heap.size _ ({S' with s:={S'.s with ts:=ts2} }:St).rs rfl A0.out.r _ _ (⟨lf,acc,z2⟩,Av,cv) rfl HZC.out ⟨HROW.out.1,HROW.out.2.1,HRW.out⟩ (Nat.le_trans HRSL.out (by decide)) (Nat.le_trans hB HSW.out) HSW.out ?_
       intro v8 w8 ho8 hg8
       have A1:=aA ((A0.out.more (Nat.le_trans HSW.out hg8.size)).r_put ho8 hg8)
       obtain⟨A8,c8,rfl,_,_⟩:=aM ho8
       have HQ8:Hid (w8.heap[w.heap.size+1]?=wz.heap[w.heap.size+1]?):=aA ((hg8.block (w.heap.size+1) (by have:=(Array.getElem?_eq_some_iff.1 (HQY.out.trans HPZ.out.qb)).1;exact this) (fun e=>by
        obtain⟨_,_,_,h3,_⟩:=A0.out.r
        have:=h3 _ e.symm
        omega)).trans HQY.out)
       have HK8:Hid (aP w w8):=aA (HKY.out.a.trans (by obtain⟨_,_,h2,_⟩:=A0.out.r;exact aP.own h2 hg8 (.inr (.inr rfl))))
       have HW8:Hid (Below B w w8):=aA (HWY.out.grown hg8 (Nat.le_trans hB HSW.out) (fun k e=>by obtain⟨_,_,h2,_⟩:=A0.out.r;exact(aF h2 e).1))
       obtain⟨n8,hn8⟩:∃n,n=(({S' with s:={S'.s with ts:=ts2} }:St).rs++[(⟨lf,acc,z2⟩:Gm.Rl)]).length:=⟨_,rfl⟩
       have c28:w8.cell? ⟨R,2,none⟩=some (.slice AR ({S' with s:={S'.s with ts:=ts2} }:St).rs.length cR):=(A1.out.at 2).1
       have f28:=(A1.out.at 2).2.1
       have hR8:=(A1.out.at 2).2.2
       rw[←hn8]at A1 ⊢
       have HN8:=aA hn8
       clear ho8 hg8 A0 hn8
       refine hKK _ _ ⟨⟨w8,HQ8.out⟩,rfl⟩ (fun x=>∃y:Calm.OnB (w.heap.size+1) wz,x=y.1) (fun _ h=>h) ⟨⟨w8,HQ8.out⟩,rfl⟩ ?_
       go_frame
       repeat (go_big_quiet_step (fail))
       refine wpQuiet_nil ?_
       intro KK hKK
       rw[if_pos (by rfl)]
       go_wp2_with fail
       have HQ9:=aA (fun u=>(Below.heap_setCell w8 ⟨R,2,none⟩ u (w.heap.size+1) (by simp only;omega)).trans HQ8.out)
       refine hKK _ _ ⟨⟨w8.setCell ⟨R,2,none⟩ _,HQ9.out _⟩,rfl⟩ (fun x=>∃y:Calm.OnB (w.heap.size+1) wz,x=y.1) (fun _ h=>h) ⟨⟨w8.setCell ⟨R,2,none⟩ _,HQ9.out _⟩,rfl⟩ ?_
       refine wpQuiet_nil ?_
       clear hKK
       go_wp2
       go_ret2
       refine⟨?_,HW8.out.setCell A1.out.hR _,HK8.out.trans (aP.cells (aD (World.grownBy.refl _ _) 2 _) A1.out.b (.inl rfl))⟩
       rw[HX2.out]
       refine⟨rfl,?_,by rw[←HPZ.out.ns.1];exact HPZ.out.n,HPZ.out.t⟩
       have hS:({S with s:={S.s with ts:=({S' with s:={S'.s with ts:=ts2} }:St).s.ts},rs:=S.rs++[⟨Gm.find S.ns pr.l.t,acc,z2⟩]}:St) = {({S' with s:={S'.s with ts:=ts2} }:St) with rs:=({S' with s:={S'.s with ts:=ts2} }:St).rs++[⟨lf,acc,z2⟩]}:=by
        rw[HPZ.out.ns.2,HLF.out]
        exact congrArg (fun T:St=>({T with rs:=S.rs++[⟨Gm.find S.ns pr.l.t,acc,z2⟩]}:St)) (HPZ.out.e ({S' with s:={S'.s with ts:=ts2} }:St).s.ts)
       rw[aT]
       show Bld L _ B w8.heap.size R ({S with s:={S.s with ts:=({S' with s:={S'.s with ts:=ts2} }:St).s.ts},rs:=S.rs++[⟨Gm.find S.ns pr.l.t,acc,z2⟩]}:St)
       rw[hS]
       exact⟨vT',vN',_,Ms',Mt',ml',tl',⟨A1.out.set 2 _,HFB.out.so,HFB.out.ko⟩⟩
 ·intro KK hKK
  rw[if_pos (by rfl)]
  go_wp2_with fail
  refine hKK _ _ ⟨⟨_,HDb.out _⟩,rfl⟩ (fun x=>∃y:Calm.On w1.heap.size w1,x=y.1) (fun _ h=>h) ⟨⟨_,HDb.out _⟩,rfl⟩ ?_
  refine wpQuiet_nil ?_
  intro KK hKK
  rw[if_pos (by rfl)]
  go_wp2_with fail
  refine(HNN.out _).mono ?_;rintro _ w5 ⟨rfl,hw5⟩
  subst hw5
  go_wp2_with fail
  refine hKK _ _ ⟨⟨_,HDb.out _⟩,rfl⟩ (fun x=>∃y:Calm.On w1.heap.size w1,x=y.1) (fun _ h=>h) ⟨⟨_,HDb.out _⟩,rfl⟩ ?_
  repeat (go_big_quiet_step (fail))
  refine wpQuiet_nil ?_
  intro KK hKK
  rw[if_pos (by rfl)]
  go_wp2_with fail
  refine hKK _ _ ⟨⟨_,HDb.out _⟩,rfl⟩ (fun x=>∃y:Calm.On w1.heap.size w1,x=y.1) (fun _ h=>h) ⟨⟨_,HDb.out _⟩,rfl⟩ ?_
  refine wpQuiet_nil ?_
  clear hKK RB
  generalize rfX L pr.l=X0 at *
  generalize rfY L pr.l=Y0 at *
  generalize K.str pr.l.t=s0 at *
  obtain⟨wq,hwq⟩:∃x,x=(w1.alloc (.cells #[.int .i64 lf,.slice none 0 0,.int .i64 (-1)] 45)).drew:=⟨_,rfl⟩
  rw[←hwq]
  have HPX:Hid (PrI L w wq B R S S #[.string s0,.complex .f64 X0 Y0,.slice A pr.r.length c,.string (soS pr.p),.complex .f64 (soX L pr.p) (soY L pr.p)] lf (.slice none 0 0) [] (-1)):=aA (by rw[hwq];exact HPQ.out)
  have p2:wq.cell? ⟨w.heap.size,2,none⟩=some (.slice A pr.r.length c):=cell_of_row wq _ 2 _ _ _ HPX.out.pb
  have hPs:=(Array.getElem?_eq_some_iff.1 HPX.out.pb).1
  clear HH H1 HP1 HDa HDb HNN HRB HW1 HK1 HTX hs1 hwq HPQ
  go_wp2
  go_loopw [26] (fun vi wr=>∃(i:Nat) (S':St) (acc:List Int) (p:Int) (v:Value),i≤pr.r.length∧vi=.int .i64 i∧acc.length=i∧Hid (Gm.rights S.ns S.s.ts [] (-1) pr.r=Gm.rights S.ns S'.s.ts acc p (pr.r.drop i))∧Hid (PrI L w wr B R S S' #[.string s0,.complex .f64 X0 Y0,.slice A pr.r.length c,.string (soS pr.p),.complex .f64 (soX L pr.p) (soY L pr.p)] lf v acc p)) (fun vi _=>pr.r.length-(intOf vi).toNat)
  case atStart=>exact⟨0,S,[],-1,.slice none 0 0,Nat.zero_le _,rfl,rfl,aA rfl,HPX⟩
  case round =>
   clear HPX p2 hPs
   obtain⟨i,S',acc,p,v,hi,rfl,hai,HE,HP⟩:=hrel
   have HAI:=aA hai
   have p0:wr.cell? ⟨w.heap.size,0,none⟩=some (.string s0):=cell_of_row wr _ 0 _ _ _ HP.out.pb
   have p1:wr.cell? ⟨w.heap.size,1,none⟩=some (.complex .f64 X0 Y0):=cell_of_row wr _ 1 _ _ _ HP.out.pb
   have p2:wr.cell? ⟨w.heap.size,2,none⟩=some (.slice A pr.r.length c):=cell_of_row wr _ 2 _ _ _ HP.out.pb
   have p3:wr.cell? ⟨w.heap.size,3,none⟩=some (.string (soS pr.p)):=cell_of_row wr _ 3 _ _ _ HP.out.pb
   have p4:wr.cell? ⟨w.heap.size,4,none⟩=some (.complex .f64 (soX L pr.p) (soY L pr.p)):=cell_of_row wr _ 4 _ _ _ HP.out.pb
   have hPs:=(Array.getElem?_eq_some_iff.1 HP.out.pb).1
   clear hai
   by_cases hlt:i<pr.r.length
   ·obtain⟨g,o,rfl,hgB,hc⟩:=HR.out (by omega)
    have k0:=(HP.out.w.cell (p:=⟨g,o+i*2,none⟩) hgB).trans (hc i hlt).1
    have k1:=(HP.out.w.cell (p:=⟨g,o+i*2+1,none⟩) hgB).trans (hc i hlt).2
    have hBs:=HP.out.w.size
    have hgs:g<wr.heap.size:=by omega
    have hx:=HDX.out i hlt
    obtain⟨x,qx⟩:∃x,x=pr.r[i]:=⟨_,rfl⟩
    have HD:=aA (zaR (ns:=S.ns) (ts:=S'.s.ts) (acc:=acc) (p:=p) hlt)
    rw[←qx]at k0 k1 hx HD
    clear hc qx p3 p4
    obtain⟨X,hX⟩:∃X,X=rfX L x:=⟨_,rfl⟩
    obtain⟨Y,hY⟩:∃Y,Y=rfY L x:=⟨_,rfl⟩
    rw[←hX,←hY]at k1
    have HXY:=aA (And.intro hX hY)
    have HPA:=aA (HP.out.alloc (.cells #[.string (K.str x.t),.complex .f64 X Y] 90) hB)
    have HCR:=aA (heap_alloc_new wr (.cells #[.string (K.str x.t),.complex .f64 X Y] 90))
    have HC:=aA (zcY L B w.heap.size R S' i x.t _ HPA.out.b (Gm.tx_named hx) hx.1 (Nat.le_trans hB HPA.out.w.size) HPA.out.t)
    have HNS:Hid (Gm.Nin S'.s.ts S'.ns):=aA HP.out.n
    have HSN:Hid (S'.ns=S.ns):=aA HP.out.ns.1
    have HXN:=aA hx
    clear hX hY hx
    by_cases h6:i=6
    ·have HX:=aA (HE.out.trans (HD.out.trans (if_pos (by rw[HAI.out];exact h6))))
     have hra:RiA S' i x.t=(0,5,S'):=by unfold RiA;rw[if_pos h6]
     rw[hra]at HC
     clear hra h6
     generalize K.str x.t=sx at *
     go_wp2_with fail
     refine HC.out.mono ?_;rintro _ w2 ⟨rfl,hb2,hw2,hk2⟩
     have H2:=aA (And.intro (HPA.out.w.trans hw2) (HPA.out.k.trans hk2))
     have hrr:=hk2 _ _ _ HCR.out (by decide) (by decide)
     have r1:=cell_of_row w2 _ 1 _ _ _ hrr
     have hrz:=(Array.getElem?_eq_some_iff.1 hrr).1
     clear hb2 hw2 hk2 hrr
     go_wp2
     go_ret2
     refine⟨?_,H2.out.1,H2.out.2.a⟩
     rw[zdy HX.out]
     exact⟨by decide,by rw[HXY.out.1,HXY.out.2];rfl⟩
    have HD1:=aA (HD.out.trans (if_neg (by rw[HAI.out];exact h6)))
    have hra:RiA S' i x.t=SyA S' x.t:=by unfold RiA;rw[if_neg h6]
    rw[hra]at HC
    have HSY:=aA (zeQ (S:=S') (x:=x) HNS.out)
    cases q:Gm.symR S.ns S'.s.ts x with
    | bad y er =>
     have HX:=aA (HE.out.trans (HD1.out.trans (by rw[q,Gm.R.bind_bad])))
     obtain⟨u1,u2,u3⟩:=HSY.out.2 y er (by rw[HSN.out];exact q)
     subst u3
     rw[u1]at HC
     have her:(er != 0)=true:=by simpa using u2
     have HER:=aA u2
     clear hra h6 HSY u1 u2 q HD HD1
     generalize (SyA S' y.t).1=z1 at *
     generalize (SyA S' y.t).2.2=S2 at *
     generalize K.str y.t=sx at *
     go_wp2_with fail
     refine HC.out.mono ?_;rintro _ w2 ⟨rfl,hb2,hw2,hk2⟩
     have H2:=aA (And.intro (HPA.out.w.trans hw2) (HPA.out.k.trans hk2))
     have hrr:=hk2 _ _ _ HCR.out (by decide) (by decide)
     have r1:=cell_of_row w2 _ 1 _ _ _ hrr
     have hrz:=(Array.getElem?_eq_some_iff.1 hrr).1
     clear hb2 hw2 hk2 hrr
     go_wp2
     go_ret2
     refine⟨?_,H2.out.1,H2.out.2.a⟩
     rw[zdy HX.out]
     exact⟨HER.out,by rw[HXY.out.1,HXY.out.2];rfl⟩
    | ok qq =>
     obtain⟨ts',zz⟩:=qq
     have HX:=aA (HE.out.trans (HD1.out.trans (by rw[q,Gm.R.bind_ok])))
     have hsy:=HSY.out.1 ts' zz (by rw[HSN.out];exact q)
     rw[hsy]at HC
     have HNN2:Hid (Gm.Nin ts' S'.ns):=aA (by have h:=HNS.out;rw[HSN.out]at h ⊢;exact(Gm.symR_ok h HXN.out q).1.n)
     have HTL:Hid (ts'.length≤24):=aA (zft q HPA.out.t)
     have HIT:=aA (fun y=>zag zz y)
     clear hra h6 HSY hsy q HD HD1
     generalize K.str x.t=sx at *
     go_wp2_with fail
     refine HC.out.mono ?_;rintro _ w2 ⟨rfl,hb2,hw2,hk2⟩
     have HP2:=aA (HPA.out.call hb2 hw2 hk2 HNN2.out HTL.out)
     obtain⟨Av,nv,cv,hvv⟩:=zab HP2.out.o
     subst hvv
     have q1:w2.cell? ⟨w.heap.size+1,1,none⟩=some (.slice Av nv cv):=cell_of_row w2 _ 1 _ _ _ HP2.out.qb
     have hQs:=(Array.getElem?_eq_some_iff.1 HP2.out.qb).1
     have HP3:=aA (HP2.out.alloc (.cells #[.int .i64 zz] 3) hB)
     have HS2:Hid (w.heap.size≤w2.heap.size):=aA HP2.out.w.size
     have hil:acc.length≤1000000000000:=by have:=HAI.out;omega
     clear hb2 hw2 hk2
     go_wp2_with (refine zbO rfl (.tmp 45) (.tmp 47) _ rfl Tryz.underlying43 w.heap.size _ acc rfl HP3.out.o _ _ zz rfl (aH w2 [.int .i64 zz] 3 0) hil (by have:=HS2.out;simp;omega) ?_;intro v4 w4 ho4 hg4;obtain⟨A4,n4,c4,rfl⟩:=zab ho4;have happ:=aA (HP3.out.app ho4 hg4 hB);have q41:w4.cell? ⟨w.heap.size+1,1,none⟩=some (.slice Av nv cv):=cell_of_row w4 _ 1 _ _ _ happ.out.1;have q42:w4.cell? ⟨w.heap.size+1,2,none⟩=some (.int .i64 p):=cell_of_row w4 _ 2 _ _ _ happ.out.1;have f41:=frozen_of_row w4 _ 1 _ _ happ.out.1;have f42:=frozen_of_row w4 _ 2 _ _ happ.out.1;have hQ4:=(Array.getElem?_eq_some_iff.1 happ.out.1).1;clear ho4 hg4)
     refine(HIT.out _).mono ?_;rintro _ w5 ⟨rfl,hw5⟩
     subst hw5
     by_cases hzp:0≤zz
     ·rw[if_pos hzp]at HX
      have e:decide (0≤zz)=true:=decide_eq_true hzp
      go_wp2
      go_roundw
      case rel=>exact⟨i+1,_,acc++[zz],zz,.slice A4 n4 c4,hlt,by go_num,by rw[List.length_append,List.length_singleton,HAI.out],HX,aA (happ.out.2.setQ 2 (.int .i64 zz) rfl (happ.out.2.o.set_away happ.out.2.qb 2 _) hB)⟩
      case measure=>simp[intOf];omega
     ·rw[if_neg hzp]at HX
      have e:decide (0≤zz)=false:=decide_eq_false hzp
      go_wp2
      go_roundw
      case rel=>exact⟨i+1,_,acc++[zz],p,.slice A4 n4 c4,hlt,by go_num,by rw[List.length_append,List.length_singleton,HAI.out],HX,aA happ.out.2⟩
      case measure=>simp[intOf];omega
   ·obtain rfl:i=pr.r.length:=by omega
    have HX:=aA (HE.out.trans (zbg (Nat.le_refl _)))
    cases hpp:pr.p with
    | none =>
     have HPP:=aA hpp
     replace p3:wr.cell? ⟨w.heap.size,3,none⟩=some (.string ⟨#[]⟩):=by rw[p3,hpp];rfl
     clear hpp p0 p1 p2 p4
     obtain⟨wz,hwz⟩:∃x,x=wr:=⟨_,rfl⟩
     rw[←hwz]at p3 hPs HP ⊢
     clear hwz
     obtain⟨vT',vN',vR',Ms',Mt',ml',tl',hfin⟩:=HP.out.b
     have HFB:=aA hfin
     obtain⟨AR,cR,hvR,_,_⟩:=aM hfin.w.r
     subst hvR
     obtain⟨Av,cv,hvv,hv1,hv2,hrow⟩:=HP.out.o.row hB
     subst hvv
     have c2:wz.cell? ⟨R,2,none⟩=some (.slice AR S'.rs.length cR):=(hfin.w.at 2).1
     have hRs:=(hfin.w.at 2).2.2
     have hQs:=(Array.getElem?_eq_some_iff.1 HP.out.qb).1
     have HROW:=aA (And.intro hv1 (And.intro hv2 hrow))
     have HRSL:Hid (S'.rs.length≤1000):=aA (by rw[HP.out.ns.2];exact hrs)
     clear hfin hrow hv1 hv2
     go_wp2_with fail
     have E0:∀y:Calm.OnB (w.heap.size+1) wz,y.1.cell? ⟨w.heap.size+1,0,none⟩=some (.int .i64 lf):=fun y=>cell_of_row y.1 _ 0 _ _ _ (y.2.trans HP.out.qb)
     have E1:∀y:Calm.OnB (w.heap.size+1) wz,y.1.cell? ⟨w.heap.size+1,1,none⟩=some (.slice Av acc.length cv):=fun y=>cell_of_row y.1 _ 1 _ _ _ (y.2.trans HP.out.qb)
     have E2:∀y:Calm.OnB (w.heap.size+1) wz,y.1.cell? ⟨w.heap.size+1,2,none⟩=some (.int .i64 p):=fun y=>cell_of_row y.1 _ 2 _ _ _ (y.2.trans HP.out.qb)
     refine CalmN.region_tree (fun x=>∃y:Calm.OnB (w.heap.size+1) wz,x=y.1) (.two [0,1,2,3,4,6] 5 (.one [] 7 (.one [] 8 (.one [9,10,11] 12 (.fin [])))) 7 (.one [] 5 (.one [] 8 (.one [9,10,11] 12 (.fin []))))) (by kernel_rfl) (by kernel_rfl) (fun _ _ d _ _ h=>by cases d <;> exact h) ⟨⟨wz.drew,rfl⟩,rfl⟩ ?_
     simp only[CalmN.wpT,CalmN.wpSt,CalmN.pickOps,List.getElem?_toArray,List.getElem?_cons_zero,List.getElem?_cons_succ]
     repeat (go_big_quiet_step (fail))
     refine wpQuiet_nil ?_
     clear E0 E1 E2
     have HQ1:=aA (fun o=>(Below.heap_alloc wz o (w.heap.size+1) hQs))
     refine⟨?_,?_⟩
     ·intro KK hKK
      rw[if_pos (by rfl)]
      go_wp2_with fail
      refine hKK _ _ ⟨⟨wz.drew,rfl⟩,rfl⟩ (fun x=>∃y:Calm.OnB (w.heap.size+1) wz,x=y.1) (fun _ h=>h) ⟨⟨wz.drew,rfl⟩,rfl⟩ ?_
      refine wpQuiet_nil ?_
      intro KK hKK
      rw[if_pos (by rfl)]
      go_wp2_with fail
      refine hKK _ _ ⟨⟨(wz.alloc _).drew,HQ1.out _⟩,rfl⟩ (fun x=>∃y:Calm.OnB (w.heap.size+1) wz,x=y.1) (fun _ h=>h) ⟨⟨(wz.alloc _).drew,HQ1.out _⟩,rfl⟩ ?_
      refine wpQuiet_nil ?_
      intro KK hKK
      rw[if_pos (by rfl)]
      obtain⟨wy,hwy⟩:∃x,x=(wz.alloc (.cells #[.int .i64 lf,.slice Av acc.length cv,.int .i64 p] 45)).drew:=⟨_,rfl⟩
      rw[←hwy]
      have A0:Hid (BRaw wy B w.heap.size R (zbe L vT' vN' (.slice AR S'.rs.length cR) Ms' Mt' S') vT' vN' (.slice AR S'.rs.length cR) S'.s.ts S'.ns S'.rs Ms' Mt' ml' tl'):=aA (by rw[hwy];exact(HFB.out.w.alloc (.cells #[.int .i64 lf,.slice Av acc.length cv,.int .i64 p] 45)).grown (aE _ none) (Off.none _ _))
      have HWY:Hid (Below B w wy):=aA (by rw[hwy];exact aB (HP.out.w.alloc (Nat.le_trans hB HP.out.w.size) _) 1)
      have HKY:Hid (aJ w wy):=aA (by rw[hwy];exact HP.out.k.trans (aJ.below (aB ((Below.refl _ _).alloc (Nat.le_refl _) _) 1)))
      have HQY:Hid (wy.heap[w.heap.size+1]?=wz.heap[w.heap.size+1]?):=aA (by rw[hwy];exact HQ1.out _)
      have HZC:Hid (∀j u,(rlC (⟨lf,acc,p⟩,Av,cv))[j]?=some u→wy.cell? ⟨wz.heap.size,j,none⟩=some u):=aA (fun j u hj=>by rw[hwy];exact(aH wz (rlC (⟨lf,acc,p⟩,Av,cv)) 45 j).trans hj)
      have HRW:Hid (bP wy B wy.heap.size Av acc):=aA (by
       rw[hwy]
       exact(HROW.out.2.2.grown (w':=(wz.alloc (.cells #[.int .i64 lf,.slice Av acc.length cv,.int .i64 p] 45)).drew) (row:=none) ((World.grownBy_alloc wz (.cells #[.int .i64 lf,.slice Av acc.length cv,.int .i64 p] 45) none).trans (aE _ none)) (fun g e=>by cases e)).more (by show wz.heap.size≤(wz.alloc _).heap.size;simp))
      have HSW:Hid (w.heap.size≤wy.heap.size):=aA HWY.out.size
      clear hwy
      refine zal (.tmp 80) (.tmp 82) _ rfl Tryz.underlying24 B w.heap.size _ S'.rs rfl A0.out.r _ _ (⟨lf,acc,p⟩,Av,cv) rfl HZC.out ⟨HROW.out.1,HROW.out.2.1,HRW.out⟩ (Nat.le_trans HRSL.out (by decide)) (Nat.le_trans hB HSW.out) HSW.out ?_
      intro v8 w8 ho8 hg8
      have A1:=aA ((A0.out.more (Nat.le_trans HSW.out hg8.size)).r_put ho8 hg8)
      obtain⟨A8,c8,rfl,_,_⟩:=aM ho8
      have HQ8:Hid (w8.heap[w.heap.size+1]?=wz.heap[w.heap.size+1]?):=aA ((hg8.block (w.heap.size+1) (by have:=(Array.getElem?_eq_some_iff.1 (HQY.out.trans HP.out.qb)).1;exact this) (fun e=>by
       obtain⟨_,_,_,h3,_⟩:=A0.out.r
       have:=h3 _ e.symm
       omega)).trans HQY.out)
      have HK8:Hid (aP w w8):=aA (HKY.out.a.trans (by obtain⟨_,_,h2,_⟩:=A0.out.r;exact aP.own h2 hg8 (.inr (.inr rfl))))
      have HW8:Hid (Below B w w8):=aA (HWY.out.grown hg8 (Nat.le_trans hB HSW.out) (fun k e=>by obtain⟨_,_,h2,_⟩:=A0.out.r;exact(aF h2 e).1))
      obtain⟨n8,hn8⟩:∃n,n=(S'.rs++[(⟨lf,acc,p⟩:Gm.Rl)]).length:=⟨_,rfl⟩
      have c28:w8.cell? ⟨R,2,none⟩=some (.slice AR S'.rs.length cR):=(A1.out.at 2).1
      have f28:=(A1.out.at 2).2.1
      have hR8:=(A1.out.at 2).2.2
      rw[←hn8]at A1 ⊢
      have HN8:=aA hn8
      clear ho8 hg8 A0 hn8
      refine hKK _ _ ⟨⟨w8,HQ8.out⟩,rfl⟩ (fun x=>∃y:Calm.OnB (w.heap.size+1) wz,x=y.1) (fun _ h=>h) ⟨⟨w8,HQ8.out⟩,rfl⟩ ?_
      go_frame
      repeat (go_big_quiet_step (fail))
      refine wpQuiet_nil ?_
      intro KK hKK
      rw[if_pos (by rfl)]
      go_wp2_with fail
      have HQ9:=aA (fun u=>(Below.heap_setCell w8 ⟨R,2,none⟩ u (w.heap.size+1) (by simp only;omega)).trans HQ8.out)
      refine hKK _ _ ⟨⟨w8.setCell ⟨R,2,none⟩ _,HQ9.out _⟩,rfl⟩ (fun x=>∃y:Calm.OnB (w.heap.size+1) wz,x=y.1) (fun _ h=>h) ⟨⟨w8.setCell ⟨R,2,none⟩ _,HQ9.out _⟩,rfl⟩ ?_
      refine wpQuiet_nil ?_
      clear hKK
      go_wp2
      go_ret2
      refine⟨?_,HW8.out.setCell A1.out.hR _,HK8.out.trans (aP.cells (aD (World.grownBy.refl _ _) 2 _) A1.out.b (.inl rfl))⟩
      rw[zb0 HX.out HPP.out]
      refine⟨rfl,?_,by rw[←HP.out.ns.1];exact HP.out.n,HP.out.t⟩
      have hS:({S with s:={S.s with ts:=S'.s.ts},rs:=S.rs++[⟨Gm.find S.ns pr.l.t,acc,p⟩]}:St) = {S' with rs:=S'.rs++[⟨lf,acc,p⟩]}:=by
       rw[HP.out.ns.2,HLF.out]
       exact congrArg (fun T:St=>({T with rs:=S.rs++[⟨Gm.find S.ns pr.l.t,acc,p⟩]}:St)) (HP.out.e S'.s.ts)
      rw[aT]
      show Bld L _ B w8.heap.size R ({S with s:={S.s with ts:=S'.s.ts},rs:=S.rs++[⟨Gm.find S.ns pr.l.t,acc,p⟩]}:St)
      rw[hS]
      exact⟨vT',vN',_,Ms',Mt',ml',tl',⟨A1.out.set 2 _,HFB.out.so,HFB.out.ko⟩⟩
     ·intro KK hKK
      rw[if_pos (by rfl)]
      go_wp2_with fail
      refine hKK _ _ ⟨⟨(wz.alloc _).drew,HQ1.out _⟩,rfl⟩ (fun x=>∃y:Calm.OnB (w.heap.size+1) wz,x=y.1) (fun _ h=>h) ⟨⟨(wz.alloc _).drew,HQ1.out _⟩,rfl⟩ ?_
      refine wpQuiet_nil ?_
      intro KK hKK
      rw[if_pos (by rfl)]
      go_wp2_with fail
      refine hKK _ _ ⟨⟨(wz.alloc _).drew,HQ1.out _⟩,rfl⟩ (fun x=>∃y:Calm.OnB (w.heap.size+1) wz,x=y.1) (fun _ h=>h) ⟨⟨(wz.alloc _).drew,HQ1.out _⟩,rfl⟩ ?_
      refine wpQuiet_nil ?_
      intro KK hKK
      rw[if_pos (by rfl)]
      obtain⟨wy,hwy⟩:∃x,x=(wz.alloc (.cells #[.int .i64 lf,.slice Av acc.length cv,.int .i64 p] 45)).drew:=⟨_,rfl⟩
      rw[←hwy]
      have A0:Hid (BRaw wy B w.heap.size R (zbe L vT' vN' (.slice AR S'.rs.length cR) Ms' Mt' S') vT' vN' (.slice AR S'.rs.length cR) S'.s.ts S'.ns S'.rs Ms' Mt' ml' tl'):=aA (by rw[hwy];exact(HFB.out.w.alloc (.cells #[.int .i64 lf,.slice Av acc.length cv,.int .i64 p] 45)).grown (aE _ none) (Off.none _ _))
      have HWY:Hid (Below B w wy):=aA (by rw[hwy];exact aB (HP.out.w.alloc (Nat.le_trans hB HP.out.w.size) _) 1)
      have HKY:Hid (aJ w wy):=aA (by rw[hwy];exact HP.out.k.trans (aJ.below (aB ((Below.refl _ _).alloc (Nat.le_refl _) _) 1)))
      have HQY:Hid (wy.heap[w.heap.size+1]?=wz.heap[w.heap.size+1]?):=aA (by rw[hwy];exact HQ1.out _)
      have HZC:Hid (∀j u,(rlC (⟨lf,acc,p⟩,Av,cv))[j]?=some u→wy.cell? ⟨wz.heap.size,j,none⟩=some u):=aA (fun j u hj=>by rw[hwy];exact(aH wz (rlC (⟨lf,acc,p⟩,Av,cv)) 45 j).trans hj)
      have HRW:Hid (bP wy B wy.heap.size Av acc):=aA (by
       rw[hwy]
       exact(HROW.out.2.2.grown (w':=(wz.alloc (.cells #[.int .i64 lf,.slice Av acc.length cv,.int .i64 p] 45)).drew) (row:=none) ((World.grownBy_alloc wz (.cells #[.int .i64 lf,.slice Av acc.length cv,.int .i64 p] 45) none).trans (aE _ none)) (fun g e=>by cases e)).more (by show wz.heap.size≤(wz.alloc _).heap.size;simp))
      have HSW:Hid (w.heap.size≤wy.heap.size):=aA HWY.out.size
      clear hwy
      refine zal (.tmp 80) (.tmp 82) _ rfl Tryz.underlying24 B w.heap.size _ S'.rs rfl A0.out.r _ _ (⟨lf,acc,p⟩,Av,cv) rfl HZC.out ⟨HROW.out.1,HROW.out.2.1,HRW.out⟩ (Nat.le_trans HRSL.out (by decide)) (Nat.le_trans hB HSW.out) HSW.out ?_
      intro v8 w8 ho8 hg8
      have A1:=aA ((A0.out.more (Nat.le_trans HSW.out hg8.size)).r_put ho8 hg8)
      obtain⟨A8,c8,rfl,_,_⟩:=aM ho8
      have HQ8:Hid (w8.heap[w.heap.size+1]?=wz.heap[w.heap.size+1]?):=aA ((hg8.block (w.heap.size+1) (by have:=(Array.getElem?_eq_some_iff.1 (HQY.out.trans HP.out.qb)).1;exact this) (fun e=>by
       obtain⟨_,_,_,h3,_⟩:=A0.out.r
       have:=h3 _ e.symm
       omega)).trans HQY.out)
      have HK8:Hid (aP w w8):=aA (HKY.out.a.trans (by obtain⟨_,_,h2,_⟩:=A0.out.r;exact aP.own h2 hg8 (.inr (.inr rfl))))
      have HW8:Hid (Below B w w8):=aA (HWY.out.grown hg8 (Nat.le_trans hB HSW.out) (fun k e=>by obtain⟨_,_,h2,_⟩:=A0.out.r;exact(aF h2 e).1))
      obtain⟨n8,hn8⟩:∃n,n=(S'.rs++[(⟨lf,acc,p⟩:Gm.Rl)]).length:=⟨_,rfl⟩
      have c28:w8.cell? ⟨R,2,none⟩=some (.slice AR S'.rs.length cR):=(A1.out.at 2).1
      have f28:=(A1.out.at 2).2.1
      have hR8:=(A1.out.at 2).2.2
      rw[←hn8]at A1 ⊢
      have HN8:=aA hn8
      clear ho8 hg8 A0 hn8
      refine hKK _ _ ⟨⟨w8,HQ8.out⟩,rfl⟩ (fun x=>∃y:Calm.OnB (w.heap.size+1) wz,x=y.1) (fun _ h=>h) ⟨⟨w8,HQ8.out⟩,rfl⟩ ?_
      go_frame
      repeat (go_big_quiet_step (fail))
      refine wpQuiet_nil ?_
      intro KK hKK
      rw[if_pos (by rfl)]
      go_wp2_with fail
      have HQ9:=aA (fun u=>(Below.heap_setCell w8 ⟨R,2,none⟩ u (w.heap.size+1) (by simp only;omega)).trans HQ8.out)
      refine hKK _ _ ⟨⟨w8.setCell ⟨R,2,none⟩ _,HQ9.out _⟩,rfl⟩ (fun x=>∃y:Calm.OnB (w.heap.size+1) wz,x=y.1) (fun _ h=>h) ⟨⟨w8.setCell ⟨R,2,none⟩ _,HQ9.out _⟩,rfl⟩ ?_
      refine wpQuiet_nil ?_
      clear hKK
      go_wp2
      go_ret2
      refine⟨?_,HW8.out.setCell A1.out.hR _,HK8.out.trans (aP.cells (aD (World.grownBy.refl _ _) 2 _) A1.out.b (.inl rfl))⟩
      rw[zb0 HX.out HPP.out]
      refine⟨rfl,?_,by rw[←HP.out.ns.1];exact HP.out.n,HP.out.t⟩
      have hS:({S with s:={S.s with ts:=S'.s.ts},rs:=S.rs++[⟨Gm.find S.ns pr.l.t,acc,p⟩]}:St) = {S' with rs:=S'.rs++[⟨lf,acc,p⟩]}:=by
       rw[HP.out.ns.2,HLF.out]
       exact congrArg (fun T:St=>({T with rs:=S.rs++[⟨Gm.find S.ns pr.l.t,acc,p⟩]}:St)) (HP.out.e S'.s.ts)
      rw[aT]
      show Bld L _ B w8.heap.size R ({S with s:={S.s with ts:=S'.s.ts},rs:=S.rs++[⟨Gm.find S.ns pr.l.t,acc,p⟩]}:St)
      rw[hS]
      exact⟨vT',vN',_,Ms',Mt',ml',tl',⟨A1.out.set 2 _,HFB.out.so,HFB.out.ko⟩⟩
    | some x =>
     have HPP:=aA hpp
     have hxn:=HDP.out x hpp
     have hne:x.t≠[]:=fun e=>by have:=hxn.1;rw[e]at this;simp[Gm.named,T.isName,T.isLit]at this
     replace p3:wr.cell? ⟨w.heap.size,3,none⟩=some (.string (K.str x.t)):=by rw[p3,hpp];rfl
     obtain⟨X,hX⟩:∃X,X=rfX L x:=⟨_,rfl⟩
     obtain⟨Y,hY⟩:∃Y,Y=rfY L x:=⟨_,rfl⟩
     replace p4:wr.cell? ⟨w.heap.size,4,none⟩=some (.complex .f64 X Y):=by rw[p4,hpp,hX,hY];rfl
     have HXY:=aA (And.intro hX hY)
     have hsn:¬(K.str x.t).toList=[]:=by rw[K.str_list];intro e;exact hne (by simpa[K.bytes] using e)
     have HC:=aA (zei L B w.heap.size R S' x.t wr HP.out.b (Gm.tx_named hxn) hxn.1 (Nat.le_trans hB HP.out.w.size) HP.out.t)
     have HSN:Hid (S'.ns=S.ns):=aA HP.out.ns.1
     have HPA:=aA (zhB (S:=S') (x:=x) HP.out.n)
     cases q:Gm.symP S.ns S'.s.ts x with
     | bad y er =>
      obtain⟨u1,u2,u3⟩:=HPA.out.2 y er (by rw[HSN.out];exact q)
      subst u3
      have HX2:=aA (zfE (rs:=S.rs) HX.out HPP.out q)
      rw[u1]at HC
      have her:(er != 0)=true:=by simpa using u2
      have HER:=aA u2
      clear hX hY hpp hxn hne HPA u1 u2 q p0 p1 p2
      generalize (PrA S' y.t).1=z1 at *
      generalize (PrA S' y.t).2.2=S2 at *
      generalize K.str y.t=sx at *
      have hsn':sx.toList.isEmpty=false:=by simpa using hsn
      go_wp2_with fail
      refine HC.out.mono ?_;rintro _ w2 ⟨rfl,hb2,hw2,hk2⟩
      have H2:=aA (And.intro (HP.out.w.trans hw2) (HP.out.k.trans hk2))
      have hpb:=hk2 _ _ _ HP.out.pb (by decide) (by decide)
      have p4:w2.cell? ⟨w.heap.size,4,none⟩=some (.complex .f64 (soX L pr.p) (soY L pr.p)):=cell_of_row w2 _ 4 _ _ _ hpb
      have hPz:=(Array.getElem?_eq_some_iff.1 hpb).1
      have HSX:Hid (soX L pr.p=X∧soY L pr.p=Y):=aA (by rw[HPP.out,HXY.out.1,HXY.out.2];exact⟨rfl,rfl⟩)
      rw[HSX.out.1,HSX.out.2]at p4
      clear hb2 hw2 hk2 hpb
      go_wp2
      go_ret2
      refine⟨?_,H2.out.1,H2.out.2.a⟩
      rw[HX2.out]
      exact⟨HER.out,by rw[HXY.out.1,HXY.out.2];rfl⟩
     | ok qq =>
      obtain⟨ts2,z2⟩:=qq
      have hpa:=HPA.out.1 ts2 z2 (by rw[HSN.out];exact q)
      rw[hpa]at HC
      have HNN2:Hid (Gm.Nin ts2 S'.ns):=aA (by have h:=HP.out.n;rw[HSN.out]at h ⊢;exact(Gm.symP_ok h hxn q).1.n)
      have HTL:Hid (ts2.length≤24):=aA (zfu q HP.out.t)
      have HX2:=aA (zfD (rs:=S.rs) HX.out HPP.out q)
      clear hX hY hpp hxn hne HPA hpa q p0 p1 p2
      generalize K.str x.t=sx at *
      have hsn':sx.toList.isEmpty=false:=by simpa using hsn
      go_wp2_with fail
      refine HC.out.mono ?_;rintro _ w2 ⟨rfl,hb2,hw2,hk2⟩
      have HP2:=aA (HP.out.call hb2 hw2 hk2 HNN2.out HTL.out)
      have q2:w2.cell? ⟨w.heap.size+1,2,none⟩=some (.int .i64 p):=cell_of_row w2 _ 2 _ _ _ HP2.out.qb
      have f2:=frozen_of_row w2 _ 2 _ _ HP2.out.qb
      have hQ2:=(Array.getElem?_eq_some_iff.1 HP2.out.qb).1
      clear hb2 hw2 hk2 p3 p4
      go_upto_region 17 with fail
      obtain⟨wz,hwz⟩:∃x,x=w2.setCell ⟨w.heap.size+1,2,none⟩ (.int .i64 z2):=⟨_,rfl⟩
      rw[←hwz]
      have HPZ:Hid (PrI L w wz B R S {S' with s:={S'.s with ts:=ts2} } #[.string s0,.complex .f64 X0 Y0,.slice A pr.r.length c,.string (soS pr.p),.complex .f64 (soX L pr.p) (soY L pr.p)] lf v acc z2):=aA (by rw[hwz];exact HP2.out.setQ 2 (.int .i64 z2) rfl (HP2.out.o.set_away HP2.out.qb 2 _) hB)
      clear hwz q2 f2 hQ2
      obtain⟨vT',vN',vR',Ms',Mt',ml',tl',hfin⟩:=HPZ.out.b
      have HFB:=aA hfin
      obtain⟨AR,cR,hvR,_,_⟩:=aM hfin.w.r
      subst hvR
      obtain⟨Av,cv,hvv,hv1,hv2,hrow⟩:=HPZ.out.o.row hB
      subst hvv
      have c2:wz.cell? ⟨R,2,none⟩=some (.slice AR ({S' with s:={S'.s with ts:=ts2} }:St).rs.length cR):=(hfin.w.at 2).1
      have hRs:=(hfin.w.at 2).2.2
      have hQs:=(Array.getElem?_eq_some_iff.1 HPZ.out.qb).1
      have HROW:=aA (And.intro hv1 (And.intro hv2 hrow))
      have HRSL:Hid (({S' with s:={S'.s with ts:=ts2} }:St).rs.length≤1000):=aA (by rw[HPZ.out.ns.2];exact hrs)
      clear hfin hrow hv1 hv2
      go_wp2_with fail
      have E0:∀y:Calm.OnB (w.heap.size+1) wz,y.1.cell? ⟨w.heap.size+1,0,none⟩=some (.int .i64 lf):=fun y=>cell_of_row y.1 _ 0 _ _ _ (y.2.trans HPZ.out.qb)
      have E1:∀y:Calm.OnB (w.heap.size+1) wz,y.1.cell? ⟨w.heap.size+1,1,none⟩=some (.slice Av acc.length cv):=fun y=>cell_of_row y.1 _ 1 _ _ _ (y.2.trans HPZ.out.qb)
      have E2:∀y:Calm.OnB (w.heap.size+1) wz,y.1.cell? ⟨w.heap.size+1,2,none⟩=some (.int .i64 z2):=fun y=>cell_of_row y.1 _ 2 _ _ _ (y.2.trans HPZ.out.qb)
      refine CalmN.region_tree (fun x=>∃y:Calm.OnB (w.heap.size+1) wz,x=y.1) (.two [0,1,2,3,4,6] 5 (.one [] 7 (.one [] 8 (.one [9,10,11] 12 (.fin [])))) 7 (.one [] 5 (.one [] 8 (.one [9,10,11] 12 (.fin []))))) (by kernel_rfl) (by kernel_rfl) (fun _ _ d _ _ h=>by cases d <;> exact h) ⟨⟨wz.drew,rfl⟩,rfl⟩ ?_
      simp only[CalmN.wpT,CalmN.wpSt,CalmN.pickOps,List.getElem?_toArray,List.getElem?_cons_zero,List.getElem?_cons_succ]
      repeat (go_big_quiet_step (fail))
      refine wpQuiet_nil ?_
      clear E0 E1 E2
      have HQ1:=aA (fun o=>(Below.heap_alloc wz o (w.heap.size+1) hQs))
      refine⟨?_,?_⟩
      ·intro KK hKK
       rw[if_pos (by rfl)]
       go_wp2_with fail
       refine hKK _ _ ⟨⟨wz.drew,rfl⟩,rfl⟩ (fun x=>∃y:Calm.OnB (w.heap.size+1) wz,x=y.1) (fun _ h=>h) ⟨⟨wz.drew,rfl⟩,rfl⟩ ?_
       refine wpQuiet_nil ?_
       intro KK hKK
       rw[if_pos (by rfl)]
       go_wp2_with fail
       refine hKK _ _ ⟨⟨(wz.alloc _).drew,HQ1.out _⟩,rfl⟩ (fun x=>∃y:Calm.OnB (w.heap.size+1) wz,x=y.1) (fun _ h=>h) ⟨⟨(wz.alloc _).drew,HQ1.out _⟩,rfl⟩ ?_
       refine wpQuiet_nil ?_
       intro KK hKK
       rw[if_pos (by rfl)]
       obtain⟨wy,hwy⟩:∃x,x=(wz.alloc (.cells #[.int .i64 lf,.slice Av acc.length cv,.int .i64 z2] 45)).drew:=⟨_,rfl⟩
       rw[←hwy]
       have A0:Hid (BRaw wy B w.heap.size R (zbe L vT' vN' (.slice AR ({S' with s:={S'.s with ts:=ts2} }:St).rs.length cR) Ms' Mt' ({S' with s:={S'.s with ts:=ts2} }:St)) vT' vN' (.slice AR ({S' with s:={S'.s with ts:=ts2} }:St).rs.length cR) ({S' with s:={S'.s with ts:=ts2} }:St).s.ts ({S' with s:={S'.s with ts:=ts2} }:St).ns ({S' with s:={S'.s with ts:=ts2} }:St).rs Ms' Mt' ml' tl'):=aA (by rw[hwy];exact(HFB.out.w.alloc (.cells #[.int .i64 lf,.slice Av acc.length cv,.int .i64 z2] 45)).grown (aE _ none) (Off.none _ _))
       have HWY:Hid (Below B w wy):=aA (by rw[hwy];exact aB (HPZ.out.w.alloc (Nat.le_trans hB HPZ.out.w.size) _) 1)
       have HKY:Hid (aJ w wy):=aA (by rw[hwy];exact HPZ.out.k.trans (aJ.below (aB ((Below.refl _ _).alloc (Nat.le_refl _) _) 1)))
       have HQY:Hid (wy.heap[w.heap.size+1]?=wz.heap[w.heap.size+1]?):=aA (by rw[hwy];exact HQ1.out _)
       have HZC:Hid (∀j u,(rlC (⟨lf,acc,z2⟩,Av,cv))[j]?=some u→wy.cell? ⟨wz.heap.size,j,none⟩=some u):=aA (fun j u hj=>by rw[hwy];exact(aH wz (rlC (⟨lf,acc,z2⟩,Av,cv)) 45 j).trans hj)
       have HRW:Hid (bP wy B wy.heap.size Av acc):=aA (by
        rw[hwy]
        exact(HROW.out.2.2.grown (w':=(wz.alloc (.cells #[.int .i64 lf,.slice Av acc.length cv,.int .i64 z2] 45)).drew) (row:=none) ((World.grownBy_alloc wz (.cells #[.int .i64 lf,.slice Av acc.length cv,.int .i64 z2] 45) none).trans (aE _ none)) (fun g e=>by cases e)).more (by show wz.heap.size≤(wz.alloc _).heap.size;simp))
       have HSW:Hid (w.heap.size≤wy.heap.size):=aA HWY.out.size
       clear hwy
       refine zal (.tmp 80) (.tmp 82) _ rfl Tryz.underlying24 B w.heap.size _ ({S' with s:={S'.s with ts:=ts2} }:St).rs rfl A0.out.r _ _ (⟨lf,acc,z2⟩,Av,cv) rfl HZC.out ⟨HROW.out.1,HROW.out.2.1,HRW.out⟩ (Nat.le_trans HRSL.out (by decide)) (Nat.le_trans hB HSW.out) HSW.out ?_
       intro v8 w8 ho8 hg8
       have A1:=aA ((A0.out.more (Nat.le_trans HSW.out hg8.size)).r_put ho8 hg8)
       obtain⟨A8,c8,rfl,_,_⟩:=aM ho8
       have HQ8:Hid (w8.heap[w.heap.size+1]?=wz.heap[w.heap.size+1]?):=aA ((hg8.block (w.heap.size+1) (by have:=(Array.getElem?_eq_some_iff.1 (HQY.out.trans HPZ.out.qb)).1;exact this) (fun e=>by
        obtain⟨_,_,_,h3,_⟩:=A0.out.r
        have:=h3 _ e.symm
        omega)).trans HQY.out)
       have HK8:Hid (aP w w8):=aA (HKY.out.a.trans (by obtain⟨_,_,h2,_⟩:=A0.out.r;exact aP.own h2 hg8 (.inr (.inr rfl))))
       have HW8:Hid (Below B w w8):=aA (HWY.out.grown hg8 (Nat.le_trans hB HSW.out) (fun k e=>by obtain⟨_,_,h2,_⟩:=A0.out.r;exact(aF h2 e).1))
       obtain⟨n8,hn8⟩:∃n,n=(({S' with s:={S'.s with ts:=ts2} }:St).rs++[(⟨lf,acc,z2⟩:Gm.Rl)]).length:=⟨_,rfl⟩
       have c28:w8.cell? ⟨R,2,none⟩=some (.slice AR ({S' with s:={S'.s with ts:=ts2} }:St).rs.length cR):=(A1.out.at 2).1
       have f28:=(A1.out.at 2).2.1
       have hR8:=(A1.out.at 2).2.2
       rw[←hn8]at A1 ⊢
       have HN8:=aA hn8
       clear ho8 hg8 A0 hn8
       refine hKK _ _ ⟨⟨w8,HQ8.out⟩,rfl⟩ (fun x=>∃y:Calm.OnB (w.heap.size+1) wz,x=y.1) (fun _ h=>h) ⟨⟨w8,HQ8.out⟩,rfl⟩ ?_
       go_frame
       repeat (go_big_quiet_step (fail))
       refine wpQuiet_nil ?_
       intro KK hKK
       rw[if_pos (by rfl)]
       go_wp2_with fail
       have HQ9:=aA (fun u=>(Below.heap_setCell w8 ⟨R,2,none⟩ u (w.heap.size+1) (by simp only;omega)).trans HQ8.out)
       refine hKK _ _ ⟨⟨w8.setCell ⟨R,2,none⟩ _,HQ9.out _⟩,rfl⟩ (fun x=>∃y:Calm.OnB (w.heap.size+1) wz,x=y.1) (fun _ h=>h) ⟨⟨w8.setCell ⟨R,2,none⟩ _,HQ9.out _⟩,rfl⟩ ?_
       refine wpQuiet_nil ?_
       clear hKK
       go_wp2
       go_ret2
       refine⟨?_,HW8.out.setCell A1.out.hR _,HK8.out.trans (aP.cells (aD (World.grownBy.refl _ _) 2 _) A1.out.b (.inl rfl))⟩
       rw[HX2.out]
       refine⟨rfl,?_,by rw[←HPZ.out.ns.1];exact HPZ.out.n,HPZ.out.t⟩
       have hS:({S with s:={S.s with ts:=({S' with s:={S'.s with ts:=ts2} }:St).s.ts},rs:=S.rs++[⟨Gm.find S.ns pr.l.t,acc,z2⟩]}:St) = {({S' with s:={S'.s with ts:=ts2} }:St) with rs:=({S' with s:={S'.s with ts:=ts2} }:St).rs++[⟨lf,acc,z2⟩]}:=by
        rw[HPZ.out.ns.2,HLF.out]
        exact congrArg (fun T:St=>({T with rs:=S.rs++[⟨Gm.find S.ns pr.l.t,acc,z2⟩]}:St)) (HPZ.out.e ({S' with s:={S'.s with ts:=ts2} }:St).s.ts)
       rw[aT]
       show Bld L _ B w8.heap.size R ({S with s:={S.s with ts:=({S' with s:={S'.s with ts:=ts2} }:St).s.ts},rs:=S.rs++[⟨Gm.find S.ns pr.l.t,acc,z2⟩]}:St)
       rw[hS]
       exact⟨vT',vN',_,Ms',Mt',ml',tl',⟨A1.out.set 2 _,HFB.out.so,HFB.out.ko⟩⟩
      ·intro KK hKK
       rw[if_pos (by rfl)]
       go_wp2_with fail
       refine hKK _ _ ⟨⟨(wz.alloc _).drew,HQ1.out _⟩,rfl⟩ (fun x=>∃y:Calm.OnB (w.heap.size+1) wz,x=y.1) (fun _ h=>h) ⟨⟨(wz.alloc _).drew,HQ1.out _⟩,rfl⟩ ?_
       refine wpQuiet_nil ?_
       intro KK hKK
       rw[if_pos (by rfl)]
       go_wp2_with fail
       refine hKK _ _ ⟨⟨(wz.alloc _).drew,HQ1.out _⟩,rfl⟩ (fun x=>∃y:Calm.OnB (w.heap.size+1) wz,x=y.1) (fun _ h=>h) ⟨⟨(wz.alloc _).drew,HQ1.out _⟩,rfl⟩ ?_
       refine wpQuiet_nil ?_
       intro KK hKK
       rw[if_pos (by rfl)]
       obtain⟨wy,hwy⟩:∃x,x=(wz.alloc (.cells #[.int .i64 lf,.slice Av acc.length cv,.int .i64 z2] 45)).drew:=⟨_,rfl⟩
       rw[←hwy]
       have A0:Hid (BRaw wy B w.heap.size R (zbe L vT' vN' (.slice AR ({S' with s:={S'.s with ts:=ts2} }:St).rs.length cR) Ms' Mt' ({S' with s:={S'.s with ts:=ts2} }:St)) vT' vN' (.slice AR ({S' with s:={S'.s with ts:=ts2} }:St).rs.length cR) ({S' with s:={S'.s with ts:=ts2} }:St).s.ts ({S' with s:={S'.s with ts:=ts2} }:St).ns ({S' with s:={S'.s with ts:=ts2} }:St).rs Ms' Mt' ml' tl'):=aA (by rw[hwy];exact(HFB.out.w.alloc (.cells #[.int .i64 lf,.slice Av acc.length cv,.int .i64 z2] 45)).grown (aE _ none) (Off.none _ _))
       have HWY:Hid (Below B w wy):=aA (by rw[hwy];exact aB (HPZ.out.w.alloc (Nat.le_trans hB HPZ.out.w.size) _) 1)
       have HKY:Hid (aJ w wy):=aA (by rw[hwy];exact HPZ.out.k.trans (aJ.below (aB ((Below.refl _ _).alloc (Nat.le_refl _) _) 1)))
       have HQY:Hid (wy.heap[w.heap.size+1]?=wz.heap[w.heap.size+1]?):=aA (by rw[hwy];exact HQ1.out _)
       have HZC:Hid (∀j u,(rlC (⟨lf,acc,z2⟩,Av,cv))[j]?=some u→wy.cell? ⟨wz.heap.size,j,none⟩=some u):=aA (fun j u hj=>by rw[hwy];exact(aH wz (rlC (⟨lf,acc,z2⟩,Av,cv)) 45 j).trans hj)
       have HRW:Hid (bP wy B wy.heap.size Av acc):=aA (by
        rw[hwy]
        exact(HROW.out.2.2.grown (w':=(wz.alloc (.cells #[.int .i64 lf,.slice Av acc.length cv,.int .i64 z2] 45)).drew) (row:=none) ((World.grownBy_alloc wz (.cells #[.int .i64 lf,.slice Av acc.length cv,.int .i64 z2] 45) none).trans (aE _ none)) (fun g e=>by cases e)).more (by show wz.heap.size≤(wz.alloc _).heap.size;simp))
       have HSW:Hid (w.heap.size≤wy.heap.size):=aA HWY.out.size
       clear hwy
       refine zal (.tmp 80) (.tmp 82) _ rfl Tryz.underlying24 B w.heap.size _ ({S' with s:={S'.s with ts:=ts2} }:St).rs rfl A0.out.r _ _ (⟨lf,acc,z2⟩,Av,cv) rfl HZC.out ⟨HROW.out.1,HROW.out.2.1,HRW.out⟩ (Nat.le_trans HRSL.out (by decide)) (Nat.le_trans hB HSW.out) HSW.out ?_
       intro v8 w8 ho8 hg8
       have A1:=aA ((A0.out.more (Nat.le_trans HSW.out hg8.size)).r_put ho8 hg8)
       obtain⟨A8,c8,rfl,_,_⟩:=aM ho8
       have HQ8:Hid (w8.heap[w.heap.size+1]?=wz.heap[w.heap.size+1]?):=aA ((hg8.block (w.heap.size+1) (by have:=(Array.getElem?_eq_some_iff.1 (HQY.out.trans HPZ.out.qb)).1;exact this) (fun e=>by
        obtain⟨_,_,_,h3,_⟩:=A0.out.r
        have:=h3 _ e.symm
        omega)).trans HQY.out)
       have HK8:Hid (aP w w8):=aA (HKY.out.a.trans (by obtain⟨_,_,h2,_⟩:=A0.out.r;exact aP.own h2 hg8 (.inr (.inr rfl))))
       have HW8:Hid (Below B w w8):=aA (HWY.out.grown hg8 (Nat.le_trans hB HSW.out) (fun k e=>by obtain⟨_,_,h2,_⟩:=A0.out.r;exact(aF h2 e).1))
       obtain⟨n8,hn8⟩:∃n,n=(({S' with s:={S'.s with ts:=ts2} }:St).rs++[(⟨lf,acc,z2⟩:Gm.Rl)]).length:=⟨_,rfl⟩
       have c28:w8.cell? ⟨R,2,none⟩=some (.slice AR ({S' with s:={S'.s with ts:=ts2} }:St).rs.length cR):=(A1.out.at 2).1
       have f28:=(A1.out.at 2).2.1
       have hR8:=(A1.out.at 2).2.2
       rw[←hn8]at A1 ⊢
       have HN8:=aA hn8
       clear ho8 hg8 A0 hn8
       refine hKK _ _ ⟨⟨w8,HQ8.out⟩,rfl⟩ (fun x=>∃y:Calm.OnB (w.heap.size+1) wz,x=y.1) (fun _ h=>h) ⟨⟨w8,HQ8.out⟩,rfl⟩ ?_
       go_frame
       repeat (go_big_quiet_step (fail))
       refine wpQuiet_nil ?_
       intro KK hKK
       rw[if_pos (by rfl)]
       go_wp2_with fail
       have HQ9:=aA (fun u=>(Below.heap_setCell w8 ⟨R,2,none⟩ u (w.heap.size+1) (by simp only;omega)).trans HQ8.out)
       refine hKK _ _ ⟨⟨w8.setCell ⟨R,2,none⟩ _,HQ9.out _⟩,rfl⟩ (fun x=>∃y:Calm.OnB (w.heap.size+1) wz,x=y.1) (fun _ h=>h) ⟨⟨w8.setCell ⟨R,2,none⟩ _,HQ9.out _⟩,rfl⟩ ?_
       refine wpQuiet_nil ?_
       clear hKK
       go_wp2
       go_ret2
       refine⟨?_,HW8.out.setCell A1.out.hR _,HK8.out.trans (aP.cells (aD (World.grownBy.refl _ _) 2 _) A1.out.b (.inl rfl))⟩
       rw[HX2.out]
       refine⟨rfl,?_,by rw[←HPZ.out.ns.1];exact HPZ.out.n,HPZ.out.t⟩
       have hS:({S with s:={S.s with ts:=({S' with s:={S'.s with ts:=ts2} }:St).s.ts},rs:=S.rs++[⟨Gm.find S.ns pr.l.t,acc,z2⟩]}:St) = {({S' with s:={S'.s with ts:=ts2} }:St) with rs:=({S' with s:={S'.s with ts:=ts2} }:St).rs++[⟨lf,acc,z2⟩]}:=by
        rw[HPZ.out.ns.2,HLF.out]
        exact congrArg (fun T:St=>({T with rs:=S.rs++[⟨Gm.find S.ns pr.l.t,acc,z2⟩]}:St)) (HPZ.out.e ({S' with s:={S'.s with ts:=ts2} }:St).s.ts)
       rw[aT]
       show Bld L _ B w8.heap.size R ({S with s:={S.s with ts:=({S' with s:={S'.s with ts:=ts2} }:St).s.ts},rs:=S.rs++[⟨Gm.find S.ns pr.l.t,acc,z2⟩]}:St)
       rw[hS]
       exact⟨vT',vN',_,Ms',Mt',ml',tl',⟨A1.out.set 2 _,HFB.out.so,HFB.out.ko⟩⟩
theorem zgl {ns:List (List Int)} {ts:List Gm.Tm} {rs:List Gm.Rl} {ps:List Y.Prd} {i:Nat} (h:i<ps.length):Gm.prods ns ts rs (ps.drop i)=if rs.length=40 then .bad ps[i].l 5 else(prR ns ts rs ps[i]).bind fun q=>Gm.prods ns q.1 q.2 (ps.drop (i+1)):=by
 rw[List.drop_eq_getElem_cons h,Gm.prods,Gm.prod1]
 split
 ·rfl
 ·rfl
theorem zhz {ns:List (List Int)} {ts:List Gm.Tm} {rs:List Gm.Rl} {ps:List Y.Prd} {i:Nat} (h:ps.length≤i):Gm.prods ns ts rs (ps.drop i)=.ok (ts,rs):=by
 rw[List.drop_eq_nil_of_le h,Gm.prods]
theorem zkm {ns:List (List Int)} {ts:List Gm.Tm} {rs:List Gm.Rl} {pr:Y.Prd} {q:List Gm.Tm×List Gm.Rl} (h:prR ns ts rs pr=.ok q):q.2.length=rs.length+1:=by
 unfold prR at h
 obtain⟨a,_,h2⟩:=Gm.R.bind_eq h
 split at h2
 ·injection h2 with h2;subst h2;simp
 ·obtain⟨b,_,h3⟩:=Gm.R.bind_eq h2
  injection h3 with h3;subst h3;simp
theorem ziu (L:List Int) (B R:Nat) (S:St) (ps:List Y.Prd) (A A2:Option Addr) (c n2 c2:Nat) (w:World) (hb:Bld L w B w.heap.size R S) (hd:∀d∈ps,zln d) (hr:zgW L w B A ps) (hN:Gm.Nin S.s.ts S.ns) (ht:S.s.ts.length≤24) (hln:∀p∈ps,0≤Gm.find S.ns p.l.t) (hrs:S.rs=[]) (hB:B≤w.heap.size) (_hlen:ps.length≤1000000) :
  Calls Tryz.prog 58 #[.pointer (some ⟨R,0,none⟩),.agg #[.slice A2 n2 c2,.slice A ps.length c]] w fun e w'=>zlu L w' B R S (Gm.prods S.ns S.s.ts S.rs ps) e∧Below B w w'∧aP w w':=by
 have SC:=fun a w m X Y=>show(store a (.complex .f64 X Y) m).run Tryz.prog w=stored Tryz.prog w a (.complex .f64 X Y) m from run_store _ w a _ m rfl
 have HR:=aA hr
 have HDC:=aA (fun(i:Nat) (hi:i<ps.length)=>And.intro (hd _ (List.getElem_mem hi)) (hln _ (List.getElem_mem hi)))
 have HB0:=aA ((hb.alloc (.cells #[.slice A2 n2 c2,.slice A ps.length c] 60)).more (N':=(w.alloc (.cells #[.slice A2 n2 c2,.slice A ps.length c] 60)).heap.size) (by simp))
 have HW0:=aA (((Below.refl B w).alloc hB (.cells #[.slice A2 n2 c2,.slice A ps.length c] 60)))
 have HK0:=aA (aP.below ((Below.refl w.heap.size w).alloc (Nat.le_refl _) (.cells #[.slice A2 n2 c2,.slice A ps.length c] 60)))
 have HN0:=aA hN
 have HT0:=aA ht
 have HRS:=aA hrs
 clear hr hb hd hN ht hln hrs
 go_enter Tryz.func58,Tryz.ntmps58
 go_wp2
 go_loopw [13] (fun vi wr=>∃(i:Nat) (S':St),i≤ps.length∧i≤40∧vi=.int .i64 i∧Hid (Gm.prods S.ns S.s.ts S.rs ps=Gm.prods S.ns S'.s.ts S'.rs (ps.drop i))∧Hid (∀ts rs,({S with s:={S.s with ts:=ts},rs:=rs}:St) = {S' with s:={S'.s with ts:=ts},rs:=rs})∧Hid (Gm.Nin S'.s.ts S'.ns)∧Hid (S'.s.ts.length≤24)∧Hid (S'.rs.length=i)∧Hid (Bld L wr B wr.heap.size R S')∧Below B w wr∧Hid (aP w wr)) (fun vi _=>ps.length-(intOf vi).toNat)
 case atStart=>exact⟨0,S,Nat.zero_le _,Nat.zero_le _,rfl,aA rfl,aA (fun _ _=>rfl),HN0,HT0,aA (by rw[HRS.out];rfl),HB0,HW0.out,HK0⟩
 case round =>
  obtain⟨i,S',hi,hi40,rfl,HE,HS,HN,HT,HRL,HBL,hbw,HKT⟩:=hrel
  have HBW:=aA hbw
  clear hbw
  by_cases hlt:i<ps.length
  ·obtain⟨g,o,rfl,hgB,hc⟩:=HR.out (by omega)
   obtain⟨k0,k1,⟨A',c',k2,hrf⟩,k3,k4⟩:=hc i hlt
   have k0:=(HBW.out.cell (p:=⟨g,o+i*5,none⟩) hgB).trans k0
   have k1:=(HBW.out.cell (p:=⟨g,o+i*5+1,none⟩) hgB).trans k1
   have k2:=(HBW.out.cell (p:=⟨g,o+i*5+2,none⟩) hgB).trans k2
   have k3:=(HBW.out.cell (p:=⟨g,o+i*5+3,none⟩) hgB).trans k3
   have k4:=(HBW.out.cell (p:=⟨g,o+i*5+4,none⟩) hgB).trans k4
   have hBs:=HBW.out.size
   have hgs:g<wr.heap.size:=by omega
   obtain⟨d1,d2⟩:=HDC.out i hlt
   have HSN:Hid (S.ns=S'.ns):=aA (by have:=congrArg St.ns (HS.out [] []);exact this)
   have HCB:=aA ((HBL.out.alloc (.cells (aY L ps[i] A' c') 104)).more (N':=(wr.alloc (.cells (aY L ps[i] A' c') 104)).heap.size) (by simp))
   have HCW:=aA (HBW.out.alloc (Nat.le_trans hB HBW.out.size) (.cells (aY L ps[i] A' c') 104))
   have HCK:=aA (HKT.out.trans (aP.below ((Below.refl wr.heap.size wr).alloc (Nat.le_refl _) (.cells (aY L ps[i] A' c') 104))))
   have HD:=aA (zgl (ns:=S.ns) (ts:=S'.s.ts) (rs:=S'.rs) hlt)
   by_cases h40:i=40
   ·have HX:=aA (HE.out.trans (HD.out.trans (if_pos (by rw[HRL.out];exact h40))))
    unfold aY at HCW HCK
    have e40:((i:Int)==40)=true:=by simp[h40]
    have e41:decide ((i:Int)=40)=true:=by simp[h40]
    clear hc hrf d1 d2 HCB HD h40
    generalize ps[i]=p at *
    have HXY:Hid (∀X Y,X=rfX L p.l→Y=rfY L p.l→zlu L w B R S (.bad p.l 5) (.returned (.tuple #[.complex .f64 X Y,.int .i64 5]))):=aA (fun X Y h1 h2=>by subst h1 h2;exact⟨by decide,rfl⟩)
    obtain⟨X,hX⟩:∃X,X=rfX L p.l:=⟨_,rfl⟩
    obtain⟨Y,hY⟩:∃Y,Y=rfY L p.l:=⟨_,rfl⟩
    rw[←hX,←hY]at k1 HCW HCK
    have HXX:=aA hX
    have HYY:=aA hY
    clear hX hY
    generalize soS p.p=s3 at *
    generalize soX L p.p=x4 at *
    generalize soY L p.p=y4 at *
    generalize K.str p.l.t=sx at *
    generalize p.r.length=rl at *
    go_wp2
    go_ret2
    refine⟨?_,HCW.out,HCK.out⟩
    rw[HX.out]
    exact HXY.out _ _ HXX.out HYY.out
   have HD1:=aA (HE.out.trans (HD.out.trans (if_neg (by rw[HRL.out];exact h40))))
   have HC:=aA (ziY L B R S' ps[i] A' c' _ HCB.out d1 (hrf.keep HCW.out) HN.out HT.out (by rw[←HSN.out];exact d2) (Nat.le_trans hB HCW.out.size) (by rw[HRL.out];omega))
   rw[←HSN.out]at HC
   have HLQ:=aA (fun q (h:prR S.ns S'.s.ts S'.rs ps[i]=.ok q)=>zkm h)
   unfold aY at HCB HCW HCK HC
   clear hc hrf d1 d2 HD
   generalize ps[i]=p at *
   cases q:prR S.ns S'.s.ts S'.rs p with
   | ok qq =>
    have HX:=aA (HD1.out.trans (by rw[q,Gm.R.bind_ok]))
    have HLZ:=aA (HLQ.out qq q)
    rw[q]at HC
    clear HLQ q HD1
    generalize soS p.p=s3 at *
    generalize soX L p.p=x4 at *
    generalize soY L p.p=y4 at *
    generalize rfX L p.l=X at *
    generalize rfY L p.l=Y at *
    generalize K.str p.l.t=sx at *
    generalize p.r.length=rl at *
    go_wp2_with fail
    refine HC.out.mono ?_;rintro _ w2 ⟨⟨rfl,hb2,hn2,ht2⟩,hw2,hk2⟩
    have H2:=aA (And.intro hb2 (And.intro (HCW.out.trans hw2) (HCK.out.trans hk2)))
    have HNN:=aA hn2
    have HTT:=aA ht2
    clear hb2 hw2 hk2 hn2 ht2
    go_wp2
    go_roundw
    case rel=>exact⟨i+1,{S' with s:={S'.s with ts:=qq.1},rs:=qq.2},hlt,by omega,by go_num,HX,aA (fun ts rs=>HS.out ts rs),HNN,HTT,aA (by show qq.2.length=i+1;rw[HLZ.out,HRL.out]),aA H2.out.1,H2.out.2.1,aA H2.out.2.2⟩
    case measure=>simp[intOf];omega
   | bad y er =>
    have HX:=aA (HD1.out.trans (by rw[q,Gm.R.bind_bad]))
    rw[q]at HC
    clear HLQ q HD1
    have HXY:Hid (∀X Y,er≠0→X=rfX L y→Y=rfY L y→zlu L w B R S (.bad y er) (.returned (.tuple #[.complex .f64 X Y,.int .i64 er]))):=aA (fun X Y h0 h1 h2=>by subst h1 h2;exact⟨h0,rfl⟩)
    generalize soS p.p=s3 at *
    generalize soX L p.p=x4 at *
    generalize soY L p.p=y4 at *
    generalize rfX L p.l=X at *
    generalize rfY L p.l=Y at *
    generalize K.str p.l.t=sx at *
    generalize p.r.length=rl at *
    go_wp2_with fail
    refine HC.out.mono ?_;rintro _ w2 ⟨⟨her0,rfl⟩,hw2,hk2⟩
    have her:(er != 0)=true:=by simpa using her0
    have HER:=aA her0
    have H2:=aA (And.intro (HCW.out.trans hw2) (HCK.out.trans hk2))
    obtain⟨X2,hX⟩:∃X,X=rfX L y:=⟨_,rfl⟩
    obtain⟨Y2,hY⟩:∃Y,Y=rfY L y:=⟨_,rfl⟩
    rw[←hX,←hY]
    have HXX:=aA hX
    have HYY:=aA hY
    clear hX hY hw2 hk2 her0
    go_wp2
    go_ret2
    refine⟨?_,H2.out⟩
    rw[HX.out]
    exact HXY.out _ _ HER.out HXX.out HYY.out
  ·obtain rfl:i=ps.length:=by omega
   have HX:=aA (HE.out.trans (zhz (Nat.le_refl _)))
   go_wp2
   go_ret2
   refine⟨?_,HBW.out,HKT.out⟩
   rw[HX.out]
   refine⟨rfl,?_,?_,HT.out⟩
   ·rw[HS.out];exact HBL.out
   ·have e:=congrArg St.ns (HS.out [] []);simp only at e;rw[e];exact HN.out
theorem zeb {L:List Int} {w:World} {base:Nat} {A:Option Addr} {xs:List Tok} (h:RdR L w base A xs):zjF L w w.heap.size A xs:=fun hn=>by
 obtain⟨g,cur,e,_,hh,_⟩:=h hn
 obtain⟨g',e',_,hc⟩:=h.cell hn
 rw[e]at e'
 injection e' with e'
 injection e' with e'
 subst e'
 refine⟨g,0,e,(Array.getElem?_eq_some_iff.1 hh).1,fun i hi=>⟨?_,?_⟩⟩
 ·have:=hc i 0 _ hi (by omega) rfl
  rw[Nat.zero_add];exact this
 ·have:=hc i 1 _ hi (by omega) rfl
  rw[Nat.zero_add];exact this
theorem zeB {L:List Int} {w:World} {base:Nat} {v:Value} {ds:List Y.Dcl} (h:bI L w base v ds):∃A c,v=.slice A ds.length c∧ziE L w w.heap.size A ds:=by
 have h':=h
 obtain⟨qs,_,h2,_⟩:=h'
 rcases h2.2 with⟨hv,h0⟩|⟨g,cap,cur,hv,_,hg,_⟩
 ·exact⟨none,0,by rw[hv,h0],fun hn=>absurd h0 hn⟩
 ·refine⟨some ⟨g,0,none⟩,cap,hv,fun hn=>⟨g,0,rfl,(Array.getElem?_eq_some_iff.1 hg).1,fun i hi=>?_⟩⟩
  obtain⟨D,c,A,c',hv',k1,k2,k3⟩:=h.at i hi
  rw[hv]at hv'
  injection hv' with e1 e2 e3
  injection e1 with e1
  injection e1 with e1
  subst e1
  rw[Nat.zero_add]
  exact⟨k1,A,c',k2,zeb k3⟩
theorem zej {L:List Int} {w:World} {base:Nat} {v:Value} {ps:List Y.Prd} (h:bG L w base v ps):∃A c,v=.slice A ps.length c∧zgW L w w.heap.size A ps:=by
 have h':=h
 obtain⟨qs,_,h2,_⟩:=h'
 rcases h2.2 with⟨hv,h0⟩|⟨g,cap,cur,hv,_,hg,_⟩
 ·exact⟨none,0,by rw[hv,h0],fun hn=>absurd h0 hn⟩
 ·refine⟨some ⟨g,0,none⟩,cap,hv,fun hn=>⟨g,0,rfl,(Array.getElem?_eq_some_iff.1 hg).1,fun i hi=>?_⟩⟩
  obtain⟨D,c,A,c',hv',k,k3⟩:=h.at i hi
  rw[hv]at hv'
  injection hv' with e1 e2 e3
  injection e1 with e1
  injection e1 with e1
  subst e1
  rw[Nat.zero_add]
  refine⟨k 0 _ (by omega) rfl,k 1 _ (by omega) rfl,⟨A,c',k 2 _ (by omega) rfl,zeb k3⟩,?_,?_⟩
  ·refine k 3 _ (by omega) ?_
   unfold aX zbh
   rcases ps[i].p with _|x <;> rfl
  ·refine k 4 _ (by omega) ?_
   unfold aX zbh
   rcases ps[i].p with _|x <;> rfl
theorem zgh {w:World} {base N:Nat} {A:Option Addr} {zs:List Int} (h:bP w base N A zs) (hN:N≤w.heap.size):RdI w w.heap.size A zs:=fun hn=>by
 obtain⟨g,cur,e,_,hg,hh,hc⟩:=h hn
 refine⟨g,0,e,by omega,fun j hj=>?_⟩
 rw[Nat.zero_add,cell_of_row w g _ _ _ _ hh]
 rw[hc j hj]
 simp[List.getD,hj]
theorem zca {w:World} {base:Nat} {v:Value} {ts:List Gm.Tm} (h:aZ w base v ts):∃A c,v=.slice A ts.length c∧(ts.length≤c∧c≤9223372036854775807)∧zgS w w.heap.size A ts:=by
 have h0:=h
 unfold aZ at h0
 rcases h0.2 with⟨hv,h1⟩|⟨g,cap,cur,hv,_,hg,hn,hm,_⟩
 ·exact⟨none,0,by rw[hv,h1],by omega,fun hn=>absurd h1 hn⟩
 ·refine⟨some ⟨g,0,none⟩,cap,hv,⟨hn,by unfold maxLen at hm;omega⟩,fun _=>⟨g,0,rfl,(Array.getElem?_eq_some_iff.1 hg).1,fun i hi=>?_⟩⟩
  subst hv
  have k:=fun(j:Nat) (u:Value) (hj:j<3) (hu:(tmC ts[i])[j]?=some u)=>World.ownsRow.cells h0 (g:=g) rfl (i*3+j) u (by unfold zdW;rw[zbp tmC (fun _=>rfl) ts i j hi hj];exact hu)
  have k0:=k 0 _ (by omega) rfl
  have k1:=k 1 _ (by omega) rfl
  have k2:=k 2 _ (by omega) rfl
  rw[zdP,Nat.zero_add]at k0 k1 k2
  rw[Nat.zero_add]
  exact⟨k0,k1,k2⟩
theorem zdA {w:World} {base:Nat} {v:Value} {ns:List (List Int)} (h:bD w base v ns):∃A c,v=.slice A ns.length c∧(ns.length≤c∧c≤9223372036854775807)∧RdN w w.heap.size A ns:=by
 have h0:=h
 unfold bD at h0
 rcases h0.2 with⟨hv,h1⟩|⟨g,cap,cur,hv,_,hg,hn,hm,_⟩
 ·exact⟨none,0,by rw[hv,h1],by omega,fun hn=>absurd h1 hn⟩
 ·refine⟨some ⟨g,0,none⟩,cap,hv,⟨hn,by unfold maxLen at hm;omega⟩,fun _=>⟨g,0,rfl,(Array.getElem?_eq_some_iff.1 hg).1,fun i hi=>?_⟩⟩
  subst hv
  have k:=World.ownsRow.cells h0 (g:=g) rfl i (.string (K.str ns[i])) (by unfold bJ;simp[hi])
  rw[zdP,Nat.zero_add]at k
  rw[Nat.zero_add]
  exact k
theorem zcl {w:World} {base N:Nat} {v:Value} {rs:List Gm.Rl} (h:bF w base N v rs) (hN:N≤w.heap.size):∃A c,v=.slice A rs.length c∧(rs.length≤c∧c≤9223372036854775807)∧zjE w w.heap.size A rs:=by
 obtain⟨qs,rfl,h0,_,hq⟩:=h
 rcases h0.2 with⟨hv,h1⟩|⟨g,cap,cur,hv,_,hg,hn,hm,_⟩
 ·exact⟨none,0,by rw[hv,h1],by omega,fun hn=>absurd h1 hn⟩
 ·refine⟨some ⟨g,0,none⟩,cap,hv,⟨hn,by unfold maxLen at hm;omega⟩,fun _=>⟨g,0,rfl,(Array.getElem?_eq_some_iff.1 hg).1,fun i hi=>?_⟩⟩
  subst hv
  have hi':i<qs.length:=by simpa using hi
  have k:=fun(j:Nat) (u:Value) (hj:j<3) (hu:(rlC qs[i])[j]?=some u)=>World.ownsRow.cells h0 (g:=g) rfl (i*3+j) u (by unfold zkN;rw[zbp rlC (fun _=>rfl) qs i j hi' hj];exact hu)
  have k0:=k 0 _ (by omega) rfl
  have k1:=k 1 _ (by omega) rfl
  have k2:=k 2 _ (by omega) rfl
  rw[zdP,Nat.zero_add]at k0 k1 k2
  rw[Nat.zero_add]
  obtain⟨q1,q2,q3⟩:=hq qs[i] (List.getElem_mem hi')
  simp only[List.getElem_map]
  exact⟨k0,⟨_,_,k1,q1,q2,zgh q3 hN⟩,k2⟩
theorem zig {w:World} {B N R Ms Mt:Nat} {cs:Array Value} {vT vN vR:Value} {ts:List Gm.Tm} {ns:List (List Int)} {rs:List Gm.Rl} {ml tl:List (List Int×Value)} (h:BRaw w B N R cs vT vN vR ts ns rs Ms Mt ml tl) (hN:N≤w.heap.size) (z:Int):bC w w.heap.size (.agg #[vT,vN,vR,.int .i64 z]) ⟨ts,ns,rs,z⟩:=by
 obtain⟨A1,c1,rfl,b1,r1⟩:=zca h.t
 obtain⟨A2,c2,rfl,b2,r2⟩:=zdA h.n
 obtain⟨A3,c3,rfl,b3,r3⟩:=zcl h.r hN
 exact⟨A1,c1,A2,c2,A3,c3,rfl,b1,b2,b3,r1,r2,r3⟩
def wC (vT vN vR:Value) (lv:Int):Array Value:=#[vT,vN,vR,.int .i64 0,.slice none 0 0,.string ⟨#[]⟩,.complex .f64 0 0,.bool false,.int .i64 lv,.complex .f64 0 0,.int .i64 0]
structure WRaw (w:World) (B N R:Nat) (cs:Array Value) (vT vN vR:Value) (ts:List Gm.Tm) (ns:List (List Int)) (rs:List Gm.Rl):Prop where
 b:w.heap[R]?=some (.cells cs 98 (0,0))
 t:aZ w B vT ts
 n:bD w B vN ns
 r:bF w B N vR rs
 hR:B≤R
structure Off9 (w:World) (N:Nat) (row:Option Nat):Prop where
 h:∀g,row=some g→∃cs T,w.heap[g]?=some (.cells cs T (0,0))∧T≠98∧T≠51∧T≠9∧((T≠45∧T≠3)∨N≤g)
theorem Off9.none (w:World) (N:Nat):Off9 w N .none:=⟨fun _ h=>by cases h⟩
section
variable {w w':World} {B N R:Nat} {cs:Array Value} {vT vN vR:Value} {ts:List Gm.Tm} {ns:List (List Int)} {rs:List Gm.Rl} {row:Option Nat}
theorem WRaw.grown (h:WRaw w B N R cs vT vN vR ts ns rs) (hg:w.grownBy w' row) (ho:Off9 w N row):WRaw w' B N R cs vT vN vR ts ns rs:=by
 have hb:some R≠row:=fun e=>by
  obtain⟨cs,T,h1,h2,_⟩:=ho.h R e.symm
  exact aR h1 h2 _ h.b
 refine⟨(hg.block R (Array.getElem?_eq_some_iff.1 h.b).1 hb).trans h.b,World.ownsRow.kept h.t hg ?_,World.ownsRow.kept h.n hg ?_,h.r.grown hg ?_,h.hR⟩
 ·rcases row with _|g
  ·exact zaB _
  ·obtain⟨cs,T,h1,_,h2,_⟩:=ho.h g rfl
   exact aN h.t h1 (fun cur e=>by injection e with _ e;exact h2 e)
 ·rcases row with _|g
  ·exact zaB _
  ·obtain⟨cs,T,h1,_,_,h2,_⟩:=ho.h g rfl
   exact aN h.n h1 (fun cur e=>by injection e with _ e;exact h2 e)
 ·intro g e
  obtain⟨cs,T,h1,_,_,_,h2⟩:=ho.h g e
  rcases h2 with q|q
  ·exact .inl ⟨aR h1 q.2,aR h1 q.1⟩
  ·exact .inr q
theorem WRaw.below (h:WRaw w B N R cs vT vN vR ts ns rs) (hb:Below w.heap.size w w'):WRaw w' B N R cs vT vN vR ts ns rs:=h.grown (aQ hb .none) (Off9.none _ _)
theorem WRaw.alloc (h:WRaw w B N R cs vT vN vR ts ns rs) (o:Obj):WRaw (w.alloc o) B N R cs vT vN vR ts ns rs:=h.grown (World.grownBy_alloc w o .none) (Off9.none _ _)
theorem WRaw.tm_put (h:WRaw w B N R cs vT vN vR ts ns rs) {v':Value} {ts':List Gm.Tm} (ht:aZ w' B v' ts') (hg:w.grownBy w' vT.ownBlock):WRaw w' B N R cs v' vN vR ts' ns rs:=by
 refine⟨zad h.b h.t (by decide) hg,ht,World.ownsRow.kept h.n hg (zaj h.n h.t (by decide)),h.r.grown hg (fun g e=>.inl ?_),h.hR⟩
 obtain⟨_,cur,hc⟩:=aF h.t e
 exact⟨aR hc (by decide),aR hc (by decide)⟩
theorem WRaw.n_put (h:WRaw w B N R cs vT vN vR ts ns rs) {v':Value} {ns':List (List Int)} (ht:bD w' B v' ns') (hg:w.grownBy w' vN.ownBlock):WRaw w' B N R cs vT v' vR ts ns' rs:=by
 refine⟨zad h.b h.n (by decide) hg,World.ownsRow.kept h.t hg (zaj h.t h.n (by decide)),ht,h.r.grown hg (fun g e=>.inl ?_),h.hR⟩
 obtain⟨_,cur,hc⟩:=aF h.n e
 exact⟨aR hc (by decide),aR hc (by decide)⟩
theorem WRaw.r_put {N':Nat} (h:WRaw w B N R cs vT vN vR ts ns rs) {v':Value} {rs':List Gm.Rl} (ht:bF w' B N' v' rs') (hg:w.grownBy w' vR.ownBlock):WRaw w' B N' R cs vT vN v' ts ns rs':=by
 obtain⟨qs,_,h2,_⟩:=id h.r
 exact⟨zad h.b h2 (by decide) hg,World.ownsRow.kept h.t hg (zaj h.t h2 (by decide)),World.ownsRow.kept h.n hg (zaj h.n h2 (by decide)),ht,h.hR⟩
theorem WRaw.set (h:WRaw w B N R cs vT vN vR ts ns rs) (j:Nat) (u:Value):WRaw (w.setCell ⟨R,j,none⟩ u) B N R (cs.setIfInBounds j u) vT vN vR ts ns rs:=by
 have hg:w.grownBy (w.setCell ⟨R,j,none⟩ u) (some R):=aD (World.grownBy.refl _ _) j u
 refine⟨heap_setCell_same w R j _ _ u h.b,World.ownsRow.kept h.t hg (aN h.t h.b (fun cur e=>by injection e with _ e;cases e)),World.ownsRow.kept h.n hg (aN h.n h.b (fun cur e=>by injection e with _ e;cases e)),h.r.grown hg (fun g e=>.inl ?_),h.hR⟩
 injection e with e
 subst e
 exact⟨aR h.b (by decide),aR h.b (by decide)⟩
theorem WRaw.more {N':Nat} (h:WRaw w B N R cs vT vN vR ts ns rs) (hN:N≤N'):WRaw w B N' R cs vT vN vR ts ns rs:=⟨h.b,h.t,h.n,h.r.more hN,h.hR⟩
theorem WRaw.at (h:WRaw w B N R cs vT vN vR ts ns rs) (j:Nat):w.cell? ⟨R,j,none⟩=cs[j]?∧w.frozen? ⟨R,j,none⟩=false∧R<w.heap.size :=
 ⟨cell_of_row w R j _ _ _ h.b,frozen_of_row w R j _ _ h.b,(Array.getElem?_eq_some_iff.1 h.b).1⟩
theorem WRaw.lt (h:WRaw w B N R cs vT vN vR ts ns rs):R<w.heap.size:=(Array.getElem?_eq_some_iff.1 h.b).1
theorem WRaw.rd (h:WRaw w B N R cs vT vN vR ts ns rs) (hN:N≤w.heap.size) (z:Int):bC w w.heap.size (.agg #[vT,vN,vR,.int .i64 z]) ⟨ts,ns,rs,z⟩:=by
 obtain⟨AT,cT,rfl,h1,h2⟩:=zca h.t
 obtain⟨AN,cN,rfl,h3,h4⟩:=zdA h.n
 obtain⟨AR,cR,rfl,h5,h6⟩:=zcl h.r hN
 exact⟨AT,cT,AN,cN,AR,cR,rfl,h1,h3,h5,h2,h4,h6⟩
end
def KpT (w w':World):Prop:=∀(g:Nat) (cs:Array Value) (T:TypeId),w.heap[g]?=some (.cells cs T (0,0))→T≠98→T≠51→w'.heap[g]?=some (.cells cs T (0,0))
def KpA (w w':World):Prop:=∀(g:Nat) (cs:Array Value) (T:TypeId),w.heap[g]?=some (.cells cs T (0,0))→T≠98→T≠51→T≠9→T≠45→w'.heap[g]?=some (.cells cs T (0,0))
theorem KpT.refl (w:World):KpT w w:=fun _ _ _ h _ _=>h
theorem KpA.refl (w:World):KpA w w:=fun _ _ _ h _ _ _ _=>h
theorem KpT.trans {a b c:World} (h:KpT a b) (k:KpT b c):KpT a c:=fun g cs T h1 h2 h3=>k g cs T (h g cs T h1 h2 h3) h2 h3
theorem KpA.trans {a b c:World} (h:KpA a b) (k:KpA b c):KpA a c:=fun g cs T h1 h2 h3 h4 h5=>k g cs T (h g cs T h1 h2 h3 h4 h5) h2 h3 h4 h5
theorem KpT.a {w w':World} (h:KpT w w'):KpA w w':=fun g cs T h1 h2 h3 _ _=>h g cs T h1 h2 h3
theorem KpT.below {w w':World} (h:Below w.heap.size w w'):KpT w w':=fun g _ _ h1 _ _=>(h.block g (Array.getElem?_eq_some_iff.1 h1).1).trans h1
theorem KpA.below {w w':World} (h:Below w.heap.size w w'):KpA w w':=(KpT.below h).a
theorem KpT.cells {w w':World} {g:Nat} (h:w.grownBy w' (some g)) {T:TypeId} {cs:Array Value} (hg:w.heap[g]?=some (.cells cs T (0,0))) (hT:T=98∨T=51):KpT w w':=fun k cs' T' h1 h2 h3=>by
 refine(h.block k (Array.getElem?_eq_some_iff.1 h1).1 (fun e=>?_)).trans h1
 injection e with e
 subst e
 rw[hg]at h1;injection h1 with h1;injection h1 with _ h1
 rcases hT with q|q
 ·exact h2 (h1.symm.trans q)
 ·exact h3 (h1.symm.trans q)
theorem KpA.cells {w w':World} {g:Nat} (h:w.grownBy w' (some g)) {T:TypeId} {cs:Array Value} (hg:w.heap[g]?=some (.cells cs T (0,0))) (hT:T=98∨T=51∨T=9∨T=45):KpA w w':=fun k cs' T' h1 h2 h3 h4 h5=>by
 refine(h.block k (Array.getElem?_eq_some_iff.1 h1).1 (fun e=>?_)).trans h1
 injection e with e
 subst e
 rw[hg]at h1;injection h1 with h1;injection h1 with _ h1
 rcases hT with q|q|q|q
 ·exact h2 (h1.symm.trans q)
 ·exact h3 (h1.symm.trans q)
 ·exact h4 (h1.symm.trans q)
 ·exact h5 (h1.symm.trans q)
theorem KpT.own {w w':World} {base size n:Nat} {v:Value} {xs:List Value} (ho:w.ownsRow base 51 size v n xs) (h:w.grownBy w' v.ownBlock):KpT w w':=by
 rcases hv:v.ownBlock with _|k
 ·rw[hv]at h;exact fun g _ _ h1 _ _=>(h.block g (Array.getElem?_eq_some_iff.1 h1).1 (by simp)).trans h1
 ·rw[hv]at h
  obtain⟨_,cur,hc⟩:=aF ho hv
  exact KpT.cells h hc (.inr rfl)
theorem KpA.own {w w':World} {base size n:Nat} {v:Value} {xs:List Value} {e:TypeId} (ho:w.ownsRow base e size v n xs) (h:w.grownBy w' v.ownBlock) (he:e=51∨e=9∨e=45):KpA w w':=by
 rcases hv:v.ownBlock with _|k
 ·rw[hv]at h;exact fun g _ _ h1 _ _ _ _=>(h.block g (Array.getElem?_eq_some_iff.1 h1).1 (by simp)).trans h1
 ·rw[hv]at h
  obtain⟨_,cur,hc⟩:=aF ho hv
  exact KpA.cells h hc (.inr he)
theorem KpT.set {w:World} {B N R:Nat} {cs:Array Value} {vT vN vR:Value} {ts:List Gm.Tm} {ns:List (List Int)} {rs:List Gm.Rl} (h:WRaw w B N R cs vT vN vR ts ns rs) (j:Nat) (u:Value):KpT w (w.setCell ⟨R,j,none⟩ u):=KpT.cells (aD (World.grownBy.refl w (some R)) j u) h.b (.inl rfl)
def Wk (w:World) (B N R:Nat) (ts:List Gm.Tm) (ns:List (List Int)) (rs:List Gm.Rl) (lv:Int):Prop:=∃vT vN vR,WRaw w B N R (wC vT vN vR lv) vT vN vR ts ns rs
theorem Wk.below {w w':World} {B N R:Nat} {ts:List Gm.Tm} {ns:List (List Int)} {rs:List Gm.Rl} {lv:Int} (h:Wk w B N R ts ns rs lv) (hb:Below w.heap.size w w'):Wk w' B N R ts ns rs lv:=by
 obtain⟨vT,vN,vR,h⟩:=h;exact⟨vT,vN,vR,h.below hb⟩
theorem Wk.alloc {w:World} {B N R:Nat} {ts:List Gm.Tm} {ns:List (List Int)} {rs:List Gm.Rl} {lv:Int} (h:Wk w B N R ts ns rs lv) (o:Obj):Wk (w.alloc o) B N R ts ns rs lv:=by
 obtain⟨vT,vN,vR,h⟩:=h;exact⟨vT,vN,vR,h.alloc o⟩
theorem Wk.more {w:World} {B N N' R:Nat} {ts:List Gm.Tm} {ns:List (List Int)} {rs:List Gm.Rl} {lv:Int} (h:Wk w B N R ts ns rs lv) (hN:N≤N'):Wk w B N' R ts ns rs lv:=by
 obtain⟨vT,vN,vR,h⟩:=h;exact⟨vT,vN,vR,h.more hN⟩
theorem Wk.lt {w:World} {B N R:Nat} {ts:List Gm.Tm} {ns:List (List Int)} {rs:List Gm.Rl} {lv:Int} (h:Wk w B N R ts ns rs lv):R<w.heap.size∧B≤R:=by
 obtain⟨vT,vN,vR,h⟩:=h;exact⟨h.lt,h.hR⟩
end Go.Proofs.YtkfelkpilaipnaaGreatDoor
