/- Part of the proofs over this program: BldY, Build9, YaccPure, CfgGood, CfgRead, Read9, Src9, ShowLev2. -/
import Derived.Deep.OwnRows
import Derived.Test.YtkfelkpilaipnaaGreatDoorKL
namespace Go.Proofs.YtkfelkpilaipnaaGreatDoor
set_option maxRecDepth 100000
set_option maxHeartbeats 40000000
open Go.RowKit
def St0:St:=⟨⟨[],[],none,0⟩,[],[],0⟩
theorem zir (a b:Nat) (w:World):(Instr.build 92 #[(1,.map (some a)),(2,.map (some b))]).run Tryz.prog w=.ok (.agg #[.slice none 0 0,.slice none 0 0,.slice none 0 0,.int .i64 0,.map (some a),.map (some b),.int .i64 0,.string ⟨#[]⟩,.complex .f64 0 0]) w:=run_build w 92 _ _ (by kernel_rfl)
theorem zfX (w:World):(Instr.build 26 #[]).run Tryz.prog w=.ok (.agg #[.slice none 0 0,.slice none 0 0,.slice none 0 0,.int .i64 0]) w:=run_build w 26 _ _ (by kernel_rfl)
def Stg (ds:List Y.Dcl) (ps:List Y.Prd) (i:Nat) (S:St):Prop :=
 (i=0∧S=St0)∨(i=1∧S.ns=[]∧S.rs=[]∧Gm.decls ⟨[],[],none,0⟩ ds=.ok S.s∧S.s.ts.length≤24)∨(i=2∧S.rs=[]∧Gm.decls ⟨[],[],none,0⟩ ds=.ok S.s∧S.s.ts.length≤24∧Gm.lefts S.s.ts [] ps=.ok S.ns) ∨
  (i=3∧∃s1,Gm.decls ⟨[],[],none,0⟩ ds=.ok s1∧Gm.lefts s1.ts [] ps=.ok S.ns∧Gm.prods S.ns s1.ts [] ps=.ok (S.s.ts,S.rs)∧S.s.st=s1.st∧Gm.Nin S.s.ts S.ns)∨(i=4∧Gm.build ds ps=.ok ⟨S.s.ts,S.ns,S.rs,S.z⟩)
def GrB (w:World) (v:Value) (G:Gm.Gr):Prop:=∃B N R cs vT vN vR Ms Mt ml tl,v=.agg #[vT,vN,vR,.int .i64 G.st]∧BRaw w B N R cs vT vN vR G.ts G.ns G.rs Ms Mt ml tl∧N≤w.heap.size
theorem GrB.rd {w:World} {v:Value} {G:Gm.Gr} (h:GrB w v G):bC w w.heap.size v G:=by
 obtain⟨B,N,R,cs,vT,vN,vR,Ms,Mt,ml,tl,rfl,h,hN⟩:=h
 exact zig h hN G.st
def zaK (L:List Int) (w':World) (r:Gm.R Gm.Gr) (e:Ending):Prop:=match r with
 | .ok G=>∃v,e=.returned (.tuple #[v,.complex .f64 0 0,.int .i64 0])∧GrB w' v G
 | .bad y er=>er≠0∧e=.returned (.tuple #[.agg #[.slice none 0 0,.slice none 0 0,.slice none 0 0,.int .i64 0],.complex .f64 (rfX L y) (rfY L y),.int .i64 er])
theorem zfr (n:Nat):∀(l:List Int) (top:Int),Gm.tops n l top=true→∀x∈l,0≤x
 | [],_,_,x,hx=>by simp at hx
 | a::r,top,h,x,hx=>by
  rw[Gm.tops]at h
  split at h
  ·cases h
  ·rename_i q
   rcases List.mem_cons.1 hx with e|e
   ·omega
   ·exact zfr n r _ h x e
theorem zhY {ts:List Gm.Tm} {ps:List Y.Prd} {ns:List (List Int)} (hx:∀p∈ps,T.isName p.l.t=true∧K.Bytes p.l.t) (h:Gm.lefts ts [] ps=.ok ns):∀p∈ps,0≤Gm.find ns p.l.t:=fun p hp=>by
 obtain⟨_,_,k⟩:=Gm.lefts_ok ts ps (Gm.Nin.nil ts) hx h
 exact zfr _ _ _ k _ (List.mem_map.2 ⟨p,hp,rfl⟩)
theorem zkY {k:Int} {S S':Gm.S1} {x:Tok} (h:Gm.decl1 k S x=.ok S'):S'.st=S.st∨S'.st=some x:=by
 unfold Gm.decl1 at h
 split at h
 ·split at h
  ·cases h
  ·injection h with h;subst h;exact .inr rfl
 ·split at h
  ·split at h
   ·cases h
   ·obtain⟨p,_,h⟩:=Gm.R.bind_eq h
    injection h with h;subst h;exact .inl rfl
  ·split at h
   ·cases h
   ·obtain⟨p,_,h⟩:=Gm.R.bind_eq h
    injection h with h;subst h;exact .inl rfl
theorem zfT {k:Int}:∀(xs:List Tok) {S S':Gm.S1},Gm.declN k S xs=.ok S'→S'.st=S.st ∨ ∃x∈xs,S'.st=some x
 | [],S,S',h=>by rw[Gm.declN]at h;injection h with h;subst h;exact .inl rfl
 | x::r,S,S',h=>by
  rw[Gm.declN]at h
  obtain⟨s1,h1,h2⟩:=Gm.R.bind_eq h
  rcases zfT r h2 with e|⟨y,hy,e⟩
  ·rcases zkY h1 with e2|e2
   ·exact .inl (e.trans e2)
   ·exact .inr ⟨x,List.mem_cons_self ..,e.trans e2⟩
  ·exact .inr ⟨y,List.mem_cons_of_mem _ hy,e⟩
theorem zfS:∀(ds:List Y.Dcl) {S S':Gm.S1},Gm.decls S ds=.ok S'→S'.st=S.st ∨ ∃d∈ds,∃x∈d.ns,S'.st=some x
 | [],S,S',h=>by rw[Gm.decls]at h;injection h with h;subst h;exact .inl rfl
 | d::r,S,S',h=>by
  rw[Gm.decls]at h
  obtain⟨s1,h1,h2⟩:=Gm.R.bind_eq h
  have hu:(Gm.up d.k S).st=S.st:=by unfold Gm.up;split <;> rfl
  rcases zfS r h2 with e|⟨d',hd,x,hx,e⟩
  ·rcases zfT d.ns h1 with e2|⟨y,hy,e2⟩
   ·exact .inl (e.trans (e2.trans hu))
   ·exact .inr ⟨d,List.mem_cons_self ..,y,hy,e.trans e2⟩
  ·exact .inr ⟨d',List.mem_cons_of_mem _ hd,x,hx,e⟩
theorem ziN {ds:List Y.Dcl} {ps:List Y.Prd} {s1:Gm.S1} (hg:Gm.Good ds ps) (h:Gm.decls ⟨[],[],none,0⟩ ds=.ok s1):∀x,s1.st=some x→Gm.named x.t=true∧K.Bytes x.t:=fun x hx=>by
 rcases zfS ds h with e|⟨d,hd,y,hy,e⟩
 ·rw[e]at hx;cases hx
 ·rw[e]at hx;injection hx with hx;subst hx;exact hg.d d hd y hy
def zkT (A1 A2:Option Addr) (n1 n2 c1 c2:Nat):Array Value:=#[.slice A1 n1 c1,.slice A2 n2 c2]
def grC:Array Value:=#[.slice none 0 0,.slice none 0 0,.slice none 0 0,.int .i64 0]
def fnC (R:Nat):Array Value:=#[.func (Fn.func 56) #[.pointer (some ⟨R,0,none⟩)] #[],.func (Fn.func 57) #[.pointer (some ⟨R,0,none⟩)] #[],.func (Fn.func 58) #[.pointer (some ⟨R,0,none⟩)] #[],.func (Fn.func 59) #[.pointer (some ⟨R,0,none⟩)] #[]]
def bdC (a b:Nat):Array Value:=#[.slice none 0 0,.slice none 0 0,.slice none 0 0,.int .i64 0,.map (some a),.map (some b),.int .i64 0,.string ⟨#[]⟩,.complex .f64 0 0]
def ziH (w:World) (A1 A2:Option Addr) (n1 n2 c1 c2:Nat):World:=(((((w.alloc (.cells (zkT A1 A2 n1 n2 c1 c2) 60)).alloc (.cells grC 26)).alloc (.map #[] 0)).alloc (.map #[] 0)).alloc (.cells (bdC (w.heap.size+1+1) (w.heap.size+1+1+1)) 92)).alloc (.cells (fnC (w.heap.size+1+1+1+1)) 93)
theorem zhM (w:World):Mw.MapIs bT (w.alloc (.map #[] 0)) w.heap.size []:=Mw.MapIs.made bT w
theorem zj2 (L:List Int) (w:World) (A1 A2:Option Addr) (n1 n2 c1 c2:Nat):Below w.heap.size w (ziH w A1 A2 n1 n2 c1 c2)∧(ziH w A1 A2 n1 n2 c1 c2).heap.size=w.heap.size+6∧(ziH w A1 A2 n1 n2 c1 c2).heap[w.heap.size]?=some (.cells (zkT A1 A2 n1 n2 c1 c2) 60 (0,0))∧(ziH w A1 A2 n1 n2 c1 c2).heap[w.heap.size+1]?=some (.cells grC 26 (0,0))∧(ziH w A1 A2 n1 n2 c1 c2).heap[w.heap.size+1+1+1+1+1]?=some (.cells (fnC (w.heap.size+1+1+1+1)) 93 (0,0)) ∧
  Bld L (ziH w A1 A2 n1 n2 c1 c2) w.heap.size (w.heap.size+6) (w.heap.size+1+1+1+1) St0:=by
 obtain⟨o0,h0⟩:∃o,o=Obj.cells (zkT A1 A2 n1 n2 c1 c2) 60:=⟨_,rfl⟩
 obtain⟨o1,h1⟩:∃o,o=Obj.cells grC 26:=⟨_,rfl⟩
 obtain⟨o2,h2⟩:∃o,o=Obj.map #[] 0:=⟨_,rfl⟩
 obtain⟨o4,h4⟩:∃o,o=Obj.cells (bdC (w.heap.size+1+1) (w.heap.size+1+1+1)) 92:=⟨_,rfl⟩
 obtain⟨o5,h5⟩:∃o,o=Obj.cells (fnC (w.heap.size+1+1+1+1)) 93:=⟨_,rfl⟩
 unfold ziH
 rw[←h0,←h1,←h2,←h4,←h5]
 have s1:(w.alloc o0).heap.size=w.heap.size+1:=by simp
 have s2:((w.alloc o0).alloc o1).heap.size=w.heap.size+1+1:=by simp
 have s3:(((w.alloc o0).alloc o1).alloc o2).heap.size=w.heap.size+1+1+1:=by simp
 have s4:((((w.alloc o0).alloc o1).alloc o2).alloc o2).heap.size=w.heap.size+1+1+1+1:=by simp
 have s5:(((((w.alloc o0).alloc o1).alloc o2).alloc o2).alloc o4).heap.size=w.heap.size+1+1+1+1+1:=by simp
 have g2:Mw.MapIs bT (((w.alloc o0).alloc o1).alloc o2) (w.heap.size+1+1) []:=by have:=zhM ((w.alloc o0).alloc o1);rw[s2,←h2]at this;exact this
 have g3:Mw.MapIs bT ((((w.alloc o0).alloc o1).alloc o2).alloc o2) (w.heap.size+1+1+1) []:=by have:=zhM (((w.alloc o0).alloc o1).alloc o2);rw[s3,←h2]at this;exact this
 refine⟨?_,by simp,?_,?_,?_,?_⟩
 ·exact(((((((Below.refl _ w).alloc (Nat.le_refl _) o0).alloc (by omega) o1).alloc (by omega) o2).alloc (by omega) o2).alloc (by omega) o4).alloc (by omega) o5)
 ·rw[Below.heap_alloc _ _ _ (by omega),Below.heap_alloc _ _ _ (by omega),Below.heap_alloc _ _ _ (by omega),Below.heap_alloc _ _ _ (by omega),Below.heap_alloc _ _ _ (by omega),h0];exact heap_alloc_new w _
 ·rw[Below.heap_alloc _ _ _ (by omega),Below.heap_alloc _ _ _ (by omega),Below.heap_alloc _ _ _ (by omega),Below.heap_alloc _ _ _ (by omega),←s1,h1];exact heap_alloc_new _ _
 ·rw[←s5,h5];exact heap_alloc_new _ _
 ·refine⟨.slice none 0 0,.slice none 0 0,.slice none 0 0,w.heap.size+1+1,w.heap.size+1+1+1,[],[],⟨⟨?_,aZ.nil _ _,bD.nil _ _,bF.nil _ _ _,?_,?_,by omega,by omega,by omega,by omega⟩,fun s=>by unfold bL;rfl,fun s=>by simp[Mw.asc,St0]⟩⟩
  ·rw[Below.heap_alloc _ _ _ (by omega),←s4,h4];exact heap_alloc_new _ _
  ·have e:∀x,x=(((((w.alloc o0).alloc o1).alloc o2).alloc o2).alloc o4).alloc o5→x.heap[w.heap.size+1+1]?=(((w.alloc o0).alloc o1).alloc o2).heap[w.heap.size+1+1]?:=fun x hx=>by
    rw[hx,Below.heap_alloc _ _ _ (by omega),Below.heap_alloc _ _ _ (by omega),Below.heap_alloc _ _ _ (by omega)]
   exact g2.block (e _ rfl)
  ·have e:∀x,x=(((((w.alloc o0).alloc o1).alloc o2).alloc o2).alloc o4).alloc o5→x.heap[w.heap.size+1+1+1]?=((((w.alloc o0).alloc o1).alloc o2).alloc o2).heap[w.heap.size+1+1+1]?:=fun x hx=>by
    rw[hx,Below.heap_alloc _ _ _ (by omega),Below.heap_alloc _ _ _ (by omega)]
   exact g3.block (e _ rfl)
theorem zis (L:List Int) (ds:List Y.Dcl) (ps:List Y.Prd) (A1 A2:Option Addr) (c1 c2:Nat) (w:World) (hd:ziE L w w.heap.size A1 ds) (hp:zgW L w w.heap.size A2 ps) (hg:Gm.Good ds ps) (hdl:ds.length≤1000000) (hpl:ps.length≤1000000) (hdk:∀d∈ds,d.ns.length≤1000000) (hpk:∀p∈ps,p.r.length≤1000000) :
  Calls Tryz.prog 31 #[.agg #[.slice A1 ds.length c1,.slice A2 ps.length c2]] w fun e w'=>zaK L w' (Gm.build ds ps) e∧Below w.heap.size w w':=by
 have hmf:∀(fn:Fn) (first cap:Array Value) (w:World),(Instr.makeFunc fn first cap).run Tryz.prog w=.ok (.func fn first cap) w:=fun _ _ _ _=>rfl
 have hmm:=fun t w=>run_makeMap (P:=Tryz.prog) t w
 have hbb:=fun a b w=>zir a b w
 have hbg:=fun w=>zfX w
 have SC:=fun a w m X Y=>show(store a (.complex .f64 X Y) m).run Tryz.prog w=stored Tryz.prog w a (.complex .f64 X Y) m from run_store _ w a _ m rfl
 have HDD:=aA hd
 have HPP:=aA hp
 have HGD:=aA hg
 have HLN:=aA (And.intro hdl hpl)
 have HDK:=aA (fun d (h:d∈ds)=>(⟨hg.k d h,hg.s d h,hg.d d h,hdk d h⟩:DcOk d))
 have HPK:=aA (fun d (h:d∈ps)=>(⟨hg.l d h,hg.r d h,hg.p d h,hpk d h⟩:zln d))
 have HLO:=aA hg.l
 have HPN:Hid (0<ps.length):=aA (by have:=hg.n;rcases ps with _|⟨p,r⟩;exact absurd rfl this;simp)
 have HBG:=aA (zj2 L w A1 A2 ds.length ps.length c1 c2)
 clear hd hp hg hdl hpl hdk hpk
 go_enter Tryz.func31,Tryz.ntmps31
 go_wp2
 obtain⟨wb,hwb⟩:∃x,x=ziH w A1 A2 ds.length ps.length c1 c2:=⟨_,rfl⟩
 rw[←hwb]at HBG
 unfold ziH zkT grC fnC bdC at hwb
 rw[←hwb]
 clear hwb
 obtain⟨R,hR⟩:∃R,R=w.heap.size+1+1+1+1:=⟨_,rfl⟩
 obtain⟨F,hF⟩:∃F,F=w.heap.size+1+1+1+1+1:=⟨_,rfl⟩
 rw[←hF,←hR]
 rw[←hF,←hR]at HBG
 obtain⟨n,hn⟩:∃n,n=w.heap.size:=⟨_,rfl⟩
 rw[←hn]at HBG HDD HPP ⊢
 have HB0:=HBG.out
 have HWB:=aA HB0.1
 have HBn0:Hid (n≤wb.heap.size):=aA (by have:=HB0.2.1;omega)
 have HBL0:Hid (Bld L wb n wb.heap.size R St0):=aA (HB0.2.2.2.2.2.more (by have:=HB0.2.1;omega))
 have HSB0:=aA HB0.2.2.1
 have HGB0:=aA HB0.2.2.2.1
 have HFB0:=aA HB0.2.2.2.2.1
 have HNN:=aA hn
 clear HB0 HBG hR hF hn
 go_loopw [24] (fun vi wr=>∃(i:Nat) (S:St),vi=.int .i64 i∧i≤4∧Hid (Stg ds ps i S)∧Hid (Bld L wr n wr.heap.size R S)∧Hid (Below n w wr)∧Hid (n≤wr.heap.size)∧Hid (wr.heap[n]?=some (.cells (zkT A1 A2 ds.length ps.length c1 c2) 60 (0,0)))∧Hid (wr.heap[n+1]?=some (.cells grC 26 (0,0)))∧Hid (wr.heap[F]?=some (.cells (fnC R) 93 (0,0)))) (fun vi _=>4-(intOf vi).toNat)
 case atStart=>exact⟨0,St0,rfl,by omega,aA (.inl ⟨rfl,rfl⟩),HBL0,HWB,HBn0,HSB0,HGB0,HFB0⟩
 case round =>
  clear HBL0 HWB HBn0 HSB0 HGB0 HFB0
  obtain⟨i,S,rfl,hi,HST,HBL,HBW,HBn,HSB,HGB,HFB⟩:=hrel
  have s0:wr.cell? ⟨n,0,none⟩=some (.slice A1 ds.length c1):=cell_of_row wr _ 0 _ _ _ HSB.out
  have s1c:wr.cell? ⟨n,1,none⟩=some (.slice A2 ps.length c2):=cell_of_row wr _ 1 _ _ _ HSB.out
  have hns:=(Array.getElem?_eq_some_iff.1 HSB.out).1
  have hFs:=(Array.getElem?_eq_some_iff.1 HFB.out).1
  have hgs:=(Array.getElem?_eq_some_iff.1 HGB.out).1
  have HRD:=HDD.out.keep HBW.out
  have HRP:=HPP.out.keep HBW.out
  have HRDH:=aA HRD
  have HRPH:=aA HRP
  clear HRD HRP
  rcases HST.out with hs|hs|hs|hs|hs
  ·obtain⟨rfl,hS⟩:=hs
   have cF:wr.cell? ⟨F,0,none⟩=some (.func (Fn.func 56) #[.pointer (some ⟨R,0,none⟩)] #[]):=cell_of_row wr _ 0 _ _ _ HFB.out
   have HRD:=HRDH.out
   have HRP:=HRPH.out
   have HC:=aA (zfc L n wr.heap.size R S ds A1 A2 c1 ps.length c2 wr HBL.out HDK.out HRD (by rw[hS];exact⟨rfl,by simp[St0],fun y h=>by cases h⟩) (by rw[hS];rfl) HBn.out HLN.out.1)
   clear HRD HRP
   have HS:=aA hS
   clear hS
   cases q:Gm.decls S.s ds with
   | ok a =>
    have HQ:=aA q
    rw[q]at HC
    clear q
    go_wp2_with fail
    refine HC.out.mono ?_;rintro _ w2 ⟨⟨rfl,hb2,hi2⟩,hw2,hk2⟩
    have hka:aP wr w2:=(hk2.a)
    have HB2:=aA ((hb2.more (N':=w2.heap.size) hw2.size))
    have HW2:=aA (HBW.out.trans hw2)
    have HN2:Hid (n≤w2.heap.size):=aA (Nat.le_trans HBn.out hw2.size)
    have HSB2:=aA (hka _ _ _ HSB.out (by decide) (by decide) (by decide) (by decide))
    have HGB2:=aA (hka _ _ _ HGB.out (by decide) (by decide) (by decide) (by decide))
    have HFB2:=aA (hka _ _ _ HFB.out (by decide) (by decide) (by decide) (by decide))
    have H3:=aA hi2.t
    clear hb2 hw2 hk2 hka
    go_wp2
    go_roundw
    case rel=>exact⟨1,{S with s:=a},by go_num,by omega,aA (.inr (.inl ⟨rfl,by rw[HS.out];rfl,by rw[HS.out];rfl,by have:=HQ.out;rw[HS.out]at this;exact this,H3.out⟩)),HB2,HW2,HN2,HSB2,HGB2,HFB2⟩
    case measure=>simp[intOf]
   | bad y er =>
    have HQ:=aA q
    rw[q]at HC
    clear q
    have HX:Hid (Gm.build ds ps=.bad y er):=aA (by unfold Gm.build;have:=HQ.out;rw[HS.out]at this;rw[show(Gm.decls ⟨[],[],none,0⟩ ds)=_ from this];rfl)
    go_wp2_with fail
    refine HC.out.mono ?_;rintro _ w2 ⟨⟨her0,rfl⟩,hw2,hk2⟩
    have hka:aP wr w2:=(hk2.a)
    have her:(er != 0)=true:=by simpa using her0
    have HER:=aA her0
    have HW2:=aA (HBW.out.trans hw2)
    have hgb2:=hka _ _ _ HGB.out (by decide) (by decide) (by decide) (by decide)
    have g0:w2.cell? ⟨n+1,0,none⟩=some (.slice none 0 0):=cell_of_row w2 _ 0 _ _ _ hgb2
    have g1:w2.cell? ⟨n+1,1,none⟩=some (.slice none 0 0):=cell_of_row w2 _ 1 _ _ _ hgb2
    have g2:w2.cell? ⟨n+1,2,none⟩=some (.slice none 0 0):=cell_of_row w2 _ 2 _ _ _ hgb2
    have g3:w2.cell? ⟨n+1,3,none⟩=some (.int .i64 0):=cell_of_row w2 _ 3 _ _ _ hgb2
    have f0:=frozen_of_row w2 _ 0 _ _ hgb2
    have f1:=frozen_of_row w2 _ 1 _ _ hgb2
    have f2:=frozen_of_row w2 _ 2 _ _ hgb2
    have f3:=frozen_of_row w2 _ 3 _ _ hgb2
    have hgz:=(Array.getElem?_eq_some_iff.1 hgb2).1
    have HXX:Hid (∀w3 X Y,X=rfX L y→Y=rfY L y→zaK L w3 (.bad y er) (.returned (.tuple #[.agg #[.slice none 0 0,.slice none 0 0,.slice none 0 0,.int .i64 0],.complex .f64 X Y,.int .i64 er]))):=aA (fun _ X Y h1 h2=>by subst h1 h2;exact⟨HER.out,rfl⟩)
    obtain⟨X,hX⟩:∃X,X=rfX L y:=⟨_,rfl⟩
    obtain⟨Y,hY⟩:∃Y,Y=rfY L y:=⟨_,rfl⟩
    rw[←hX,←hY]
    have HXY:=aA (And.intro hX hY)
    clear hw2 hk2 hka hgb2 hX hY her0
    go_wp2
    refine bodyPost_ret (v:=.tuple #[.agg #[.slice none 0 0,.slice none 0 0,.slice none 0 0,.int .i64 0],.complex .f64 X Y,.int .i64 er]) (by simp[results,Tryz.results31,go_sem,g0,g1,g2,g3]) rfl ?_
    rw[HX.out]
    refine⟨HXX.out _ X Y HXY.out.1 HXY.out.2,?_⟩
    rw[←HNN.out]
    exact(((HW2.out.setCell (by simp only;omega) _).setCell (by simp only;omega) _).setCell (by simp only;omega) _).setCell (by simp only;omega) _
  ·obtain⟨rfl,⟨h1,h2,h3,h4⟩⟩:=hs
   have cF:wr.cell? ⟨F,1,none⟩=some (.func (Fn.func 57) #[.pointer (some ⟨R,0,none⟩)] #[]):=cell_of_row wr _ 1 _ _ _ HFB.out
   have HRD:=HRDH.out
   have HRP:=HRPH.out
   have HC:=aA (zji L n wr.heap.size R S ps A2 A1 c2 ds.length c1 wr HBL.out HPK.out HRP (by rw[h1];simp) HBn.out HLN.out.2)
   clear HRD HRP
   have HS:=aA (And.intro h1 (And.intro h2 (And.intro h3 h4)))
   clear h1 h2 h3 h4
   cases q:Gm.lefts S.s.ts S.ns ps with
   | ok a =>
    have HQ:=aA q
    rw[q]at HC
    clear q
    go_wp2_with fail
    refine HC.out.mono ?_;rintro _ w2 ⟨⟨rfl,hb2,_⟩,hw2,hk2⟩
    have hka:aP wr w2:=hk2
    have HB2:=aA ((hb2.more (N':=w2.heap.size) hw2.size))
    have HW2:=aA (HBW.out.trans hw2)
    have HN2:Hid (n≤w2.heap.size):=aA (Nat.le_trans HBn.out hw2.size)
    have HSB2:=aA (hka _ _ _ HSB.out (by decide) (by decide) (by decide) (by decide))
    have HGB2:=aA (hka _ _ _ HGB.out (by decide) (by decide) (by decide) (by decide))
    have HFB2:=aA (hka _ _ _ HFB.out (by decide) (by decide) (by decide) (by decide))
    clear hb2 hw2 hk2 hka
    go_wp2
    go_roundw
    case rel=>exact⟨2,{S with ns:=a},by go_num,by omega,aA (.inr (.inr (.inl ⟨rfl,HS.out.2.1,HS.out.2.2.1,HS.out.2.2.2,by have:=HQ.out;rw[HS.out.1]at this;exact this⟩))),HB2,HW2,HN2,HSB2,HGB2,HFB2⟩
    case measure=>simp[intOf]
   | bad y er =>
    have HQ:=aA q
    rw[q]at HC
    clear q
    have HX:Hid (Gm.build ds ps=.bad y er):=aA (by unfold Gm.build;rw[HS.out.2.2.1];have:=HQ.out;rw[HS.out.1]at this;rw[Gm.R.bind_ok,this];rfl)
    go_wp2_with fail
    refine HC.out.mono ?_;rintro _ w2 ⟨⟨her0,rfl⟩,hw2,hk2⟩
    have hka:aP wr w2:=hk2
    have her:(er != 0)=true:=by simpa using her0
    have HER:=aA her0
    have HW2:=aA (HBW.out.trans hw2)
    have hgb2:=hka _ _ _ HGB.out (by decide) (by decide) (by decide) (by decide)
    have g0:w2.cell? ⟨n+1,0,none⟩=some (.slice none 0 0):=cell_of_row w2 _ 0 _ _ _ hgb2
    have g1:w2.cell? ⟨n+1,1,none⟩=some (.slice none 0 0):=cell_of_row w2 _ 1 _ _ _ hgb2
    have g2:w2.cell? ⟨n+1,2,none⟩=some (.slice none 0 0):=cell_of_row w2 _ 2 _ _ _ hgb2
    have g3:w2.cell? ⟨n+1,3,none⟩=some (.int .i64 0):=cell_of_row w2 _ 3 _ _ _ hgb2
    have f0:=frozen_of_row w2 _ 0 _ _ hgb2
    have f1:=frozen_of_row w2 _ 1 _ _ hgb2
    have f2:=frozen_of_row w2 _ 2 _ _ hgb2
    have f3:=frozen_of_row w2 _ 3 _ _ hgb2
    have hgz:=(Array.getElem?_eq_some_iff.1 hgb2).1
    have HXX:Hid (∀w3 X Y,X=rfX L y→Y=rfY L y→zaK L w3 (.bad y er) (.returned (.tuple #[.agg #[.slice none 0 0,.slice none 0 0,.slice none 0 0,.int .i64 0],.complex .f64 X Y,.int .i64 er]))):=aA (fun _ X Y h1 h2=>by subst h1 h2;exact⟨HER.out,rfl⟩)
    obtain⟨X,hX⟩:∃X,X=rfX L y:=⟨_,rfl⟩
    obtain⟨Y,hY⟩:∃Y,Y=rfY L y:=⟨_,rfl⟩
    rw[←hX,←hY]
    have HXY:=aA (And.intro hX hY)
    clear hw2 hk2 hka hgb2 hX hY her0
    go_wp2
    refine bodyPost_ret (v:=.tuple #[.agg #[.slice none 0 0,.slice none 0 0,.slice none 0 0,.int .i64 0],.complex .f64 X Y,.int .i64 er]) (by simp[results,Tryz.results31,go_sem,g0,g1,g2,g3]) rfl ?_
    rw[HX.out]
    refine⟨HXX.out _ X Y HXY.out.1 HXY.out.2,?_⟩
    rw[←HNN.out]
    exact(((HW2.out.setCell (by simp only;omega) _).setCell (by simp only;omega) _).setCell (by simp only;omega) _).setCell (by simp only;omega) _
  ·obtain⟨rfl,⟨h1,h2,h3,h4⟩⟩:=hs
   have cF:wr.cell? ⟨F,2,none⟩=some (.func (Fn.func 58) #[.pointer (some ⟨R,0,none⟩)] #[]):=cell_of_row wr _ 2 _ _ _ HFB.out
   have HRD:=HRDH.out
   have HRP:=HRPH.out
   have HC:=aA (ziu L n R S ps A2 A1 c2 ds.length c1 wr HBL.out HPK.out HRP (Gm.lefts_ok _ ps (Gm.Nin.nil _) HLO.out h4).1 h3 (zhY HLO.out h4) h1 HBn.out HLN.out.2)
   clear HRD HRP
   have HS:=aA (And.intro h1 (And.intro h2 (And.intro h3 h4)))
   clear h1 h2 h3 h4
   cases q:Gm.prods S.ns S.s.ts S.rs ps with
   | ok a =>
    have HQ:=aA q
    rw[q]at HC
    clear q
    go_wp2_with fail
    refine HC.out.mono ?_;rintro _ w2 ⟨⟨rfl,hb2,hn2,_⟩,hw2,hk2⟩
    have hka:aP wr w2:=hk2
    have HB2:=aA (hb2)
    have HW2:=aA (HBW.out.trans hw2)
    have HN2:Hid (n≤w2.heap.size):=aA (Nat.le_trans HBn.out hw2.size)
    have HSB2:=aA (hka _ _ _ HSB.out (by decide) (by decide) (by decide) (by decide))
    have HGB2:=aA (hka _ _ _ HGB.out (by decide) (by decide) (by decide) (by decide))
    have HFB2:=aA (hka _ _ _ HFB.out (by decide) (by decide) (by decide) (by decide))
    have H3:=aA hn2
    clear hb2 hw2 hk2 hka
    go_wp2
    go_roundw
    case rel=>exact⟨3,{S with s:={S.s with ts:=a.1},rs:=a.2},by go_num,by omega,aA (.inr (.inr (.inr (.inl ⟨rfl,S.s,HS.out.2.1,HS.out.2.2.2,by have:=HQ.out;rw[HS.out.1]at this;exact this,rfl,H3.out⟩)))),HB2,HW2,HN2,HSB2,HGB2,HFB2⟩
    case measure=>simp[intOf]
   | bad y er =>
    have HQ:=aA q
    rw[q]at HC
    clear q
    have HX:Hid (Gm.build ds ps=.bad y er):=aA (by unfold Gm.build;rw[HS.out.2.1,Gm.R.bind_ok,HS.out.2.2.2,Gm.R.bind_ok];have:=HQ.out;rw[HS.out.1]at this;rw[this];rfl)
    go_wp2_with fail
    refine HC.out.mono ?_;rintro _ w2 ⟨⟨her0,rfl⟩,hw2,hk2⟩
    have hka:aP wr w2:=hk2
    have her:(er != 0)=true:=by simpa using her0
    have HER:=aA her0
    have HW2:=aA (HBW.out.trans hw2)
    have hgb2:=hka _ _ _ HGB.out (by decide) (by decide) (by decide) (by decide)
    have g0:w2.cell? ⟨n+1,0,none⟩=some (.slice none 0 0):=cell_of_row w2 _ 0 _ _ _ hgb2
    have g1:w2.cell? ⟨n+1,1,none⟩=some (.slice none 0 0):=cell_of_row w2 _ 1 _ _ _ hgb2
    have g2:w2.cell? ⟨n+1,2,none⟩=some (.slice none 0 0):=cell_of_row w2 _ 2 _ _ _ hgb2
    have g3:w2.cell? ⟨n+1,3,none⟩=some (.int .i64 0):=cell_of_row w2 _ 3 _ _ _ hgb2
    have f0:=frozen_of_row w2 _ 0 _ _ hgb2
    have f1:=frozen_of_row w2 _ 1 _ _ hgb2
    have f2:=frozen_of_row w2 _ 2 _ _ hgb2
    have f3:=frozen_of_row w2 _ 3 _ _ hgb2
    have hgz:=(Array.getElem?_eq_some_iff.1 hgb2).1
    have HXX:Hid (∀w3 X Y,X=rfX L y→Y=rfY L y→zaK L w3 (.bad y er) (.returned (.tuple #[.agg #[.slice none 0 0,.slice none 0 0,.slice none 0 0,.int .i64 0],.complex .f64 X Y,.int .i64 er]))):=aA (fun _ X Y h1 h2=>by subst h1 h2;exact⟨HER.out,rfl⟩)
    obtain⟨X,hX⟩:∃X,X=rfX L y:=⟨_,rfl⟩
    obtain⟨Y,hY⟩:∃Y,Y=rfY L y:=⟨_,rfl⟩
    rw[←hX,←hY]
    have HXY:=aA (And.intro hX hY)
    clear hw2 hk2 hka hgb2 hX hY her0
    go_wp2
    refine bodyPost_ret (v:=.tuple #[.agg #[.slice none 0 0,.slice none 0 0,.slice none 0 0,.int .i64 0],.complex .f64 X Y,.int .i64 er]) (by simp[results,Tryz.results31,go_sem,g0,g1,g2,g3]) rfl ?_
    rw[HX.out]
    refine⟨HXX.out _ X Y HXY.out.1 HXY.out.2,?_⟩
    rw[←HNN.out]
    exact(((HW2.out.setCell (by simp only;omega) _).setCell (by simp only;omega) _).setCell (by simp only;omega) _).setCell (by simp only;omega) _
  ·obtain⟨rfl,⟨s1,h1,h2,h3,h4,h5⟩⟩:=hs
   have cF:wr.cell? ⟨F,3,none⟩=some (.func (Fn.func 59) #[.pointer (some ⟨R,0,none⟩)] #[]):=cell_of_row wr _ 3 _ _ _ HFB.out
   have HRD:=HRDH.out
   have HRP:=HRPH.out
   have HC:=aA (ziv L n R S ps A2 A1 c2 ds.length c1 wr HBL.out HPK.out HRP h5 HPN.out (zgF HLO.out h2 HPN.out) (by rw[h4];exact ziN HGD.out h1) HBn.out)
   clear HRD HRP
   have HBB:Hid (∀a,Gm.start S.ns S.s.st=.ok a→Gm.build ds ps=.ok ⟨S.s.ts,S.ns,S.rs,a⟩):=aA (fun a h=>by unfold Gm.build;rw[h1,Gm.R.bind_ok,h2,Gm.R.bind_ok,h3,Gm.R.bind_ok,←h4,h];rfl)
   have HBB2:Hid (∀y er,Gm.start S.ns S.s.st=.bad y er→Gm.build ds ps=.bad y er):=aA (fun y er h=>by unfold Gm.build;rw[h1,Gm.R.bind_ok,h2,Gm.R.bind_ok,h3,Gm.R.bind_ok,←h4,h];rfl)
   clear h1 h2 h3 h4 h5
   cases q:Gm.start S.ns S.s.st with
   | ok a =>
    have HQ:=aA q
    rw[q]at HC
    clear q
    go_wp2_with fail
    refine HC.out.mono ?_;rintro _ w2 ⟨⟨rfl,hb2⟩,hw2,hk2⟩
    have hka:aP wr w2:=hk2
    have HB2:=aA (hb2)
    have HW2:=aA (HBW.out.trans hw2)
    have HN2:Hid (n≤w2.heap.size):=aA (Nat.le_trans HBn.out hw2.size)
    have HSB2:=aA (hka _ _ _ HSB.out (by decide) (by decide) (by decide) (by decide))
    have HGB2:=aA (hka _ _ _ HGB.out (by decide) (by decide) (by decide) (by decide))
    have HFB2:=aA (hka _ _ _ HFB.out (by decide) (by decide) (by decide) (by decide))
    clear hb2 hw2 hk2 hka
    go_wp2
    go_roundw
    case rel=>exact⟨4,{S with z:=a},by go_num,by omega,aA (.inr (.inr (.inr (.inr ⟨rfl,HBB.out a HQ.out⟩)))),HB2,HW2,HN2,HSB2,HGB2,HFB2⟩
    case measure=>simp[intOf]
   | bad y er =>
    have HQ:=aA q
    rw[q]at HC
    clear q
    have HX:Hid (Gm.build ds ps=.bad y er):=aA (HBB2.out y er HQ.out)
    go_wp2_with fail
    refine HC.out.mono ?_;rintro _ w2 ⟨⟨her0,rfl⟩,hw2,hk2⟩
    have hka:aP wr w2:=hk2
    have her:(er != 0)=true:=by simpa using her0
    have HER:=aA her0
    have HW2:=aA (HBW.out.trans hw2)
    have hgb2:=hka _ _ _ HGB.out (by decide) (by decide) (by decide) (by decide)
    have g0:w2.cell? ⟨n+1,0,none⟩=some (.slice none 0 0):=cell_of_row w2 _ 0 _ _ _ hgb2
    have g1:w2.cell? ⟨n+1,1,none⟩=some (.slice none 0 0):=cell_of_row w2 _ 1 _ _ _ hgb2
    have g2:w2.cell? ⟨n+1,2,none⟩=some (.slice none 0 0):=cell_of_row w2 _ 2 _ _ _ hgb2
    have g3:w2.cell? ⟨n+1,3,none⟩=some (.int .i64 0):=cell_of_row w2 _ 3 _ _ _ hgb2
    have f0:=frozen_of_row w2 _ 0 _ _ hgb2
    have f1:=frozen_of_row w2 _ 1 _ _ hgb2
    have f2:=frozen_of_row w2 _ 2 _ _ hgb2
    have f3:=frozen_of_row w2 _ 3 _ _ hgb2
    have hgz:=(Array.getElem?_eq_some_iff.1 hgb2).1
    have HXX:Hid (∀w3 X Y,X=rfX L y→Y=rfY L y→zaK L w3 (.bad y er) (.returned (.tuple #[.agg #[.slice none 0 0,.slice none 0 0,.slice none 0 0,.int .i64 0],.complex .f64 X Y,.int .i64 er]))):=aA (fun _ X Y h1 h2=>by subst h1 h2;exact⟨HER.out,rfl⟩)
    obtain⟨X,hX⟩:∃X,X=rfX L y:=⟨_,rfl⟩
    obtain⟨Y,hY⟩:∃Y,Y=rfY L y:=⟨_,rfl⟩
    rw[←hX,←hY]
    have HXY:=aA (And.intro hX hY)
    clear hw2 hk2 hka hgb2 hX hY her0
    go_wp2
    refine bodyPost_ret (v:=.tuple #[.agg #[.slice none 0 0,.slice none 0 0,.slice none 0 0,.int .i64 0],.complex .f64 X Y,.int .i64 er]) (by simp[results,Tryz.results31,go_sem,g0,g1,g2,g3]) rfl ?_
    rw[HX.out]
    refine⟨HXX.out _ X Y HXY.out.1 HXY.out.2,?_⟩
    rw[←HNN.out]
    exact(((HW2.out.setCell (by simp only;omega) _).setCell (by simp only;omega) _).setCell (by simp only;omega) _).setCell (by simp only;omega) _
  ·obtain⟨rfl,h1⟩:=hs
   have HX:=aA h1
   obtain⟨vT,vN,vR,Ms,Mt,ml,tl,h⟩:=HBL.out
   obtain⟨AT,mT,cT,rfl⟩:=zab h.w.t
   obtain⟨AN,mN,cN,rfl⟩:=zab h.w.n
   obtain⟨AR,cR,rfl,_,_⟩:=aM h.w.r
   have HH:=aA h
   have b0:wr.cell? ⟨R,0,none⟩=some (.slice AT mT cT):=(h.w.at 0).1
   have b1:wr.cell? ⟨R,1,none⟩=some (.slice AN mN cN):=(h.w.at 1).1
   have b2:wr.cell? ⟨R,2,none⟩=some (.slice AR S.rs.length cR):=(h.w.at 2).1
   have b3:wr.cell? ⟨R,3,none⟩=some (.int .i64 S.z):=(h.w.at 3).1
   have hRs:=(h.w.at 0).2.2
   have g0:wr.cell? ⟨n+1,0,none⟩=some (.slice none 0 0):=cell_of_row wr _ 0 _ _ _ HGB.out
   have g1:wr.cell? ⟨n+1,1,none⟩=some (.slice none 0 0):=cell_of_row wr _ 1 _ _ _ HGB.out
   have g2:wr.cell? ⟨n+1,2,none⟩=some (.slice none 0 0):=cell_of_row wr _ 2 _ _ _ HGB.out
   have g3:wr.cell? ⟨n+1,3,none⟩=some (.int .i64 0):=cell_of_row wr _ 3 _ _ _ HGB.out
   have f0:=frozen_of_row wr _ 0 _ _ HGB.out
   have f1:=frozen_of_row wr _ 1 _ _ HGB.out
   have f2:=frozen_of_row wr _ 2 _ _ HGB.out
   have f3:=frozen_of_row wr _ 3 _ _ HGB.out
   clear h h1
   have HOF:Hid (Off wr wr.heap.size (some (n+1))):=aA ⟨fun g e=>by injection e with e;subst e;exact⟨_,_,HGB.out,by decide,by decide,by decide,.inl ⟨by decide,by decide⟩⟩⟩
   have HGR:=aA (fun u0 u1 u2 u3=>HH.out.w.grown (aD (aD (aD (aD (World.grownBy.refl wr (some (n+1))) 0 u0) 1 u1) 2 u2) 3 u3) HOF.out)
   go_wp2
   refine bodyPost_ret (v:=.tuple #[.agg #[.slice AT mT cT,.slice AN mN cN,.slice AR S.rs.length cR,.int .i64 S.z],.complex .f64 0 0,.int .i64 0]) (by simp[results,Tryz.results31,go_sem,g0,g1,g2,g3]) rfl ?_
   rw[HX.out]
   refine⟨⟨_,rfl,n,_,_,_,_,_,_,_,_,_,_,rfl,HGR.out _ _ _ _,by simp⟩,?_⟩
   rw[←HNN.out]
   exact(((HBW.out.setCell (by simp only;omega) _).setCell (by simp only;omega) _).setCell (by simp only;omega) _).setCell (by simp only;omega) _
def zlM (x:Tok):Prop:=K.Tx x.t∧Gm.named x.t=true∧x.t≠[101,114,114,111,114]
structure Ez (ds:List Y.Dcl) (ps:List Y.Prd):Prop where
 k:∀d∈ds,d.k=4∨d.k=5
 d:∀d∈ds,(∀x∈d.ns,K.Tx x.t∧Gm.named x.t=true)∧d.ns.length≤1000000
 l:∀p∈ps,K.Tx p.l.t∧T.isName p.l.t=true
 r:∀p∈ps,(∀x∈p.r,zlM x)∧(∀x,p.p=some x→zlM x)∧p.r.length≤1000
 dl:ds.length≤1000
 pl:ps.length≤1000
 pn:0<ps.length
theorem zdi {k:Int} (hk:k=4∨k=5):∀(xs:List Tok) {s s':Gm.S1},Gm.declN k s xs=.ok s'→s'.st=s.st
 | [],s,s',h=>by rw[Gm.declN]at h;injection h with h;subst h;rfl
 | x::r,s,s',h=>by
  rw[Gm.declN]at h
  obtain⟨s1,h1,h2⟩:=Gm.R.bind_eq h
  rw[zdi hk r h2]
  unfold Gm.decl1 at h1
  rw[if_neg (by omega),if_neg (by omega)]at h1
  split at h1
  ·cases h1
  ·obtain⟨p,_,h1⟩:=Gm.R.bind_eq h1
   injection h1 with h1;subst h1;rfl
theorem zdf:∀(ds:List Y.Dcl) {S S':Gm.S1},(∀d∈ds,d.k=4∨d.k=5)→Gm.decls S ds=.ok S'→S'.st=S.st
 | [],S,S',_,h=>by rw[Gm.decls]at h;injection h with h;subst h;rfl
 | d::r,S,S',hk,h=>by
  rw[Gm.decls]at h
  obtain⟨s1,h1,h2⟩:=Gm.R.bind_eq h
  rw[zdf r (fun d hd=>hk d (List.mem_cons_of_mem _ hd)) h2,zdi (hk d (List.mem_cons_self ..)) d.ns h1]
  unfold Gm.up;split <;> rfl
theorem zff {ds:List Y.Dcl} {ps:List Y.Prd} {G:Gm.Gr} (hk:∀d∈ds,d.k=4∨d.k=5) (h:Gm.build ds ps=.ok G):∃S ns q,Gm.decls ⟨[],[],none,0⟩ ds=.ok S∧Gm.lefts S.ts [] ps=.ok ns∧Gm.prods ns S.ts [] ps=.ok q∧G=⟨q.1,ns,q.2,0⟩:=by
 unfold Gm.build at h
 obtain⟨S,h1,h⟩:=Gm.R.bind_eq h
 obtain⟨ns,h2,h⟩:=Gm.R.bind_eq h
 obtain⟨q,h3,h⟩:=Gm.R.bind_eq h
 have hs:S.st=none:=zdf ds hk h1
 rw[hs]at h
 injection h with h
 exact⟨S,ns,q,h1,h2,h3,h.symm⟩
theorem zeY {ns:List (List Int)} {ts:List Gm.Tm} {rs:List Gm.Rl} {ps:List Y.Prd} {i:Nat} (h:i<ps.length):Gm.prods ns ts rs (ps.drop i)=(Gm.prod1 ns ts rs ps[i]).bind fun q=>Gm.prods ns q.1 q.2 (ps.drop (i+1)):=by
 rw[List.drop_eq_getElem_cons h,Gm.prods]
theorem ziq (w:World):(Instr.build 98 #[]).run Tryz.prog w=.ok (.agg (wC (.slice none 0 0) (.slice none 0 0) (.slice none 0 0) 0)) w:=run_build w 98 _ _ (by kernel_rfl)
theorem zhA {ns:List (List Int)} {ts ts':List Gm.Tm} {rs rs':List Gm.Rl} {pr:Y.Prd} (h:Gm.prod1 ns ts rs pr=.ok (ts',rs')) (hl:rs.length≤40):rs'.length≤40:=by
 obtain⟨h40,tz,az,pz,_,q⟩:=zcp h
 rcases q with⟨_,_,rfl⟩|⟨x,z,_,_,rfl⟩ <;> simp <;> omega
def GrW (w:World) (v:Value) (G:Gm.Gr):Prop:=∃B N R cs vT vN vR,v=.agg #[vT,vN,vR,.int .i64 G.st]∧WRaw w B N R cs vT vN vR G.ts G.ns G.rs∧N≤w.heap.size
theorem GrW.rd {w:World} {v:Value} {G:Gm.Gr} (h:GrW w v G):bC w w.heap.size v G:=by
 obtain⟨B,N,R,cs,vT,vN,vR,rfl,h,hN⟩:=h
 exact h.rd hN G.st
theorem zkF (w:World) (A1 A2:Option Addr) (n1 n2 c1 c2:Nat) (wb:World) (h:wb=((w.alloc (.cells #[.slice A1 n1 c1,.slice A2 n2 c2] 60)).alloc (.cells #[.slice none 0 0,.slice none 0 0,.slice none 0 0,.int .i64 0] 26)).alloc (.cells (wC (.slice none 0 0) (.slice none 0 0) (.slice none 0 0) 0) 98)) :
  Below w.heap.size w wb∧wb.heap.size=w.heap.size+3∧wb.heap[w.heap.size]?=some (.cells #[.slice A1 n1 c1,.slice A2 n2 c2] 60 (0,0))∧wb.heap[w.heap.size+1]?=some (.cells #[.slice none 0 0,.slice none 0 0,.slice none 0 0,.int .i64 0] 26 (0,0))∧Wk wb w.heap.size (w.heap.size+3) (w.heap.size+1+1) [] [] [] 0:=by
 obtain⟨o0,h0⟩:∃o,o=Obj.cells #[.slice A1 n1 c1,.slice A2 n2 c2] 60:=⟨_,rfl⟩
 obtain⟨o1,h1⟩:∃o,o=Obj.cells #[.slice none 0 0,.slice none 0 0,.slice none 0 0,.int .i64 0] 26:=⟨_,rfl⟩
 obtain⟨o2,h2⟩:∃o,o=Obj.cells (wC (.slice none 0 0) (.slice none 0 0) (.slice none 0 0) 0) 98:=⟨_,rfl⟩
 rw[←h0,←h1,←h2]at h
 subst h
 have s1:(w.alloc o0).heap.size=w.heap.size+1:=by simp
 have s2:((w.alloc o0).alloc o1).heap.size=w.heap.size+1+1:=by simp
 refine⟨(((Below.refl _ w).alloc (Nat.le_refl _) o0).alloc (by omega) o1).alloc (by omega) o2,by simp,?_,?_,.slice none 0 0,.slice none 0 0,.slice none 0 0,?_,aZ.nil _ _,bD.nil _ _,bF.nil _ _ _,by omega⟩
 ·rw[Below.heap_alloc _ _ _ (by omega),Below.heap_alloc _ _ _ (by omega),h0];exact heap_alloc_new w _
 ·rw[Below.heap_alloc _ _ _ (by omega),←s1,h1];exact heap_alloc_new _ _
 ·rw[←s2,h2];exact heap_alloc_new _ _
theorem zlm (L:List Int) (ds:List Y.Dcl) (ps:List Y.Prd) (A1 A2:Option Addr) (c1 c2:Nat) (G:Gm.Gr) (w:World) (hd:ziE L w w.heap.size A1 ds) (hp:zgW L w w.heap.size A2 ps) (hz:Ez ds ps) (hb:Gm.build ds ps=.ok G) :
  Calls Tryz.prog 33 #[.agg #[.slice A1 ds.length c1,.slice A2 ps.length c2]] w fun e w'=>(∃g,e=.returned (.tuple #[g,.complex .f64 0 0,.int .i64 0])∧GrW w' g G∧Gm.Fit G)∧Below w.heap.size w w':=by
 obtain⟨S,ns,⟨tz,rz⟩,h1,h2,h3,hG⟩:=zff hz.k hb
 have hbg:=fun w=>ziq w
 unfold wC at hbg
 have HDD:=aA hd
 have HPP:=aA hp
 have HZ:=aA hz
 have H1:=aA h1
 have H2:=aA h2
 have H3:=aA h3
 have HG:=aA hG
 have HPN:Hid (0<ps.length):=aA hz.pn
 clear hd hp hz hb h1 h2 h3 hG
 go_enter Tryz.func33,Tryz.ntmps33
 go_wp2_with fail
 obtain⟨wb,hwb⟩:∃x,x=((w.alloc (.cells #[.slice A1 ds.length c1,.slice A2 ps.length c2] 60)).alloc (.cells #[.slice none 0 0,.slice none 0 0,.slice none 0 0,.int .i64 0] 26)).alloc (.cells (wC (.slice none 0 0) (.slice none 0 0) (.slice none 0 0) 0) 98):=⟨_,rfl⟩
 have hbe:=zkF w A1 A2 ds.length ps.length c1 c2 wb hwb
 unfold wC at hwb
 rw[←hwb]
 obtain⟨b1,b2,b3,b4,b5⟩:=hbe
 have HBW:=aA b1
 have HSB:=aA b3
 have HGB:=aA b4
 have HWK:=aA b5
 have HSZ:Hid (w.heap.size≤wb.heap.size∧w.heap.size+3≤wb.heap.size):=aA (by omega)
 clear hwb b1 b2 b3 b4 b5 hbg
 obtain⟨n,hn⟩:∃n,n=w.heap.size:=⟨_,rfl⟩
 have HNN:=aA hn
 rw[←hn]at HDD HPP HBW HSB HGB HWK HSZ ⊢
 clear hn
 obtain⟨R,hR⟩:∃R,R=n+1+1:=⟨_,rfl⟩
 rw[←hR]at HWK ⊢
 have HRN:=aA hR
 clear hR
 have HFN:Hid (Gm.Fit ⟨[],[],[],0⟩):=aA ⟨by simp,by simp,by simp,by unfold Gm.In;simp⟩
 have HC:=aA (zlf L n (n+3) R [] [] ds ⟨[],[],none,0⟩ S A1 c1 wb HWK.out ⟨HFN.out,by simp,by simp⟩ HZ.out.k HZ.out.d (HDD.out.keep HBW.out) HSZ.out.2 HSZ.out.1 rfl HZ.out.dl H1.out)
 refine HC.out.mono ?_;rintro _ w2 ⟨rfl,⟨hw2,hj2⟩,hb2,hk2⟩
 have HW2:=aA hw2
 have HJ2:=aA hj2
 have HB2:=aA hb2
 have HK2:=aA (KpT.a hk2)
 have HSB2:=aA (hk2 _ _ _ HSB.out (by decide) (by decide))
 have s1:w2.cell? ⟨n,1,none⟩=some (.slice A2 ps.length c2):=cell_of_row w2 _ 1 _ _ _ HSB2.out
 have hns2:=(Array.getElem?_eq_some_iff.1 HSB2.out).1
 have HC3:=aA (zk5 L n (n+3) R S.ts [] ps [] ns S.lv A2 c2 w2 HW2.out HJ2.out.f HZ.out.l ((HPP.out.keep HBW.out).keep HB2.out) (Nat.le_trans HSZ.out.2 HB2.out.size) (Nat.le_trans HSZ.out.1 HB2.out.size) (by simp) HZ.out.pl H2.out)
 clear hw2 hj2 hb2 hk2 HC
 go_wp2_with fail
 refine HC3.out.mono ?_;rintro _ w3 ⟨rfl,⟨hw3,hf3,hl3⟩,hb3,hk3⟩
 have HW3:Hid (Wk w3 n w3.heap.size R S.ts ns [] S.lv):=aA (hw3.more (Nat.le_trans HSZ.out.2 (Nat.le_trans HB2.out.size hb3.size)))
 have HF3:=aA hf3
 have HB3:=aA (HB2.out.trans hb3)
 have HK3:=aA (HK2.out.trans hk3)
 have HL3:=aA hl3
 have HT3:=aA HJ2.out.h
 clear hw3 hf3 hb3 hk3 HC3 s1 hl3 hns2 HW2 HB2 HK2 HSB2 HJ2
 go_wp2
 go_loopw [6] (fun vi wr=>∃(i:Nat) (ts:List Gm.Tm) (rs:List Gm.Rl),i≤ps.length∧vi=.int .i64 i∧Hid (Gm.prods ns ts rs (ps.drop i)=.ok (tz,rz))∧Hid (Wk wr n wr.heap.size R ts ns rs S.lv)∧Hid (Gm.Fit ⟨ts,ns,rs,0⟩)∧Hid (ts.length≤24)∧Hid (rs.length≤40)∧Hid (Below n wb wr)∧Hid (KpA wb wr)) (fun vi _=>ps.length-(intOf vi).toNat)
 case atStart=>exact⟨0,S.ts,[],Nat.zero_le _,rfl,H3,HW3,HF3,HT3,aA (by simp),HB3,HK3⟩
 case round =>
  obtain⟨i,ts,rs,hi,rfl,HE,HW,HF,HT,HRS,HBQ,HKQ⟩:=hrel
  have HSQ:=aA (HKQ.out _ _ _ HSB.out (by decide) (by decide) (by decide) (by decide))
  have s1:wr.cell? ⟨n,1,none⟩=some (.slice A2 ps.length c2):=cell_of_row wr _ 1 _ _ _ HSQ.out
  have hns2:=(Array.getElem?_eq_some_iff.1 HSQ.out).1
  obtain⟨vTr,vNr,vRr,hwr⟩:=HW.out
  have f10:=(hwr.at 10).1
  have hRr:=hwr.lt
  simp only[wC,List.getElem?_toArray,List.getElem?_cons_zero,List.getElem?_cons_succ]at f10
  clear hwr
  have hBs:=HBQ.out.size
  have hpl:=HZ.out.pl
  have hBs':n≤wr.heap.size:=by have:=HSZ.out;omega
  by_cases hlt:i<ps.length
  ·have HPQ:=aA ((HPP.out.keep HBW.out).keep HBQ.out)
   obtain⟨g,o,rfl,hgB,hc⟩:=HPQ.out (by omega)
   obtain⟨k0,k1,⟨A',c',k2,hrf⟩,k3,k4⟩:=hc i hlt
   have hgs:g<wr.heap.size:=by have:=HSZ.out;omega
   have hE:=HE.out
   rw[zeY hlt]at hE
   obtain⟨⟨t2,r2⟩,hp1,hE2⟩:=Gm.R.bind_eq hE
   simp only at hE2
   have HE2:=aA hE2
   obtain⟨z1,z2,z3⟩:=HZ.out.r _ (List.getElem_mem hlt)
   have HC:=aA (zlB L n R ts t2 ns rs r2 S.lv ps[i] A' c' wr HW.out HF.out hrf (HZ.out.l _ (List.getElem_mem hlt)).1 z1 z2 (by have:=HSZ.out;omega) HT.out HL3.out HRS.out z3 hp1)
   have HR2:=aA (zhA hp1 HRS.out)
   unfold aY at HC
   clear hc hrf hE hE2 hp1 z1 z2 z3
   generalize ps[i]=p at *
   generalize rfX L p.l=X0 at *
   generalize rfY L p.l=Y0 at *
   generalize K.str p.l.t=s0 at *
   generalize soX L p.p=X1 at *
   generalize soY L p.p=Y1 at *
   generalize soS p.p=s1 at *
   go_wp2_with fail
   refine HC.out.mono ?_;rintro _ w4 ⟨rfl,⟨hw4,hf4,ht4⟩,hb4,hk4⟩
   have H4:=aA (And.intro hw4 (And.intro hf4 (And.intro ht4 (And.intro (HBQ.out.trans hb4) (HKQ.out.trans hk4)))))
   clear hw4 hf4 ht4 hb4 hk4 HC
   go_wp2
   go_roundw
   case rel=>exact⟨i+1,t2,r2,hlt,by go_num,HE2,aA H4.out.1,aA H4.out.2.1,aA H4.out.2.2.1,HR2,aA H4.out.2.2.2.1,aA H4.out.2.2.2.2⟩
   case measure=>simp[intOf];omega
  ·obtain rfl:i=ps.length:=by omega
   have hE:=HE.out
   rw[List.drop_length,Gm.prods]at hE
   injection hE with hE
   injection hE with e1 e2
   subst e1
   subst e2
   have e0:((ps.length:Int)==0)=false:=beq_eq_false_iff_ne.2 (by have:=HPN.out;omega)
   go_wp2_with fail
   have f7:=fun y:Calm.On wr.heap.size wr=>(show y.1.cell? ⟨R,7,none⟩=some (.bool false) by obtain⟨a,b,c,h⟩:=HW.out.below y.2;exact(h.at 7).1)
   refine CalmN.region_tree (fun x=>∃y:Calm.On wr.heap.size wr,x=y.1) (.one [0,1,2,3,4,5,6,7,8,9,10,11,12,13] 14 (.fin [15,16])) (by kernel_rfl) (by kernel_rfl) (fun _ _ d _ _ h=>by cases d <;> exact h) ⟨⟨wr.drew,aB (Below.refl _ _) 1⟩,rfl⟩ ?_
   simp only[CalmN.wpT,CalmN.wpSt,CalmN.pickOps,List.getElem?_toArray,List.getElem?_cons_zero,List.getElem?_cons_succ]
   repeat (go_big_quiet_step (fail))
   refine wpQuiet_nil ?_
   intro KK2 hKK2
   rw[if_neg (by exact(fun h=>absurd (show false=true from h) (by decide)))]
   refine hKK2 _ _ ⟨⟨wr.drew,aB (Below.refl _ _) 1⟩,rfl⟩ (fun x=>∃y:Calm.On wr.heap.size wr,x=y.1) (fun _ h=>h) ⟨⟨wr.drew,aB (Below.refl _ _) 1⟩,rfl⟩ ?_
   simp only[Act.put,List.setIfInBounds_toArray,List.set_cons_succ,List.set_cons_zero]
   repeat (go_big_quiet_step (fail))
   refine wpQuiet_nil ?_
   clear f7 s1 hns2 f10 hRr hKK2
   obtain⟨wz,hwz⟩:∃x,x=wr.drew:=⟨_,rfl⟩
   rw[←hwz]
   have hbz:Below wr.heap.size wr wz:=by rw[hwz];exact aB (Below.refl _ _) 1
   have HWZ:=aA (HW.out.below hbz)
   have hzs:wz.heap.size=wr.heap.size:=by rw[hwz];rfl
   have HWB:=aA ((HBW.out.trans HBQ.out).trans (hbz.mono hBs'))
   have HSZ2:=aA ((hbz.block _ (Array.getElem?_eq_some_iff.1 HSQ.out).1).trans HSQ.out)
   have HGQ:=HKQ.out _ _ _ HGB.out (by decide) (by decide) (by decide) (by decide)
   have HGZ:=aA ((hbz.block _ (Array.getElem?_eq_some_iff.1 HGQ).1).trans HGQ)
   clear hwz HGQ hbz
   have s1:wz.cell? ⟨n,1,none⟩=some (.slice A2 ps.length c2):=cell_of_row wz _ 1 _ _ _ HSZ2.out
   have hns2:=(Array.getElem?_eq_some_iff.1 HSZ2.out).1
   obtain⟨vTz,vNz,vRz,hzw⟩:=HWZ.out
   obtain⟨⟨AT,cT,rfl⟩,⟨AN,cN,rfl⟩,⟨AR,cR,rfl⟩⟩:=zai hzw
   have HZW:=aA hzw
   have b0:=(hzw.at 0).1
   have b1:=(hzw.at 1).1
   have b2:=(hzw.at 2).1
   have b3:=(hzw.at 3).1
   have b7:=(hzw.at 7).1
   have b10:=(hzw.at 10).1
   have hRz:=hzw.lt
   simp only[wC,List.getElem?_toArray,List.getElem?_cons_zero,List.getElem?_cons_succ]at b0 b1 b2 b3 b7 b10
   have g0:wz.cell? ⟨n+1,0,none⟩=some (.slice none 0 0):=cell_of_row wz _ 0 _ _ _ HGZ.out
   have g1:wz.cell? ⟨n+1,1,none⟩=some (.slice none 0 0):=cell_of_row wz _ 1 _ _ _ HGZ.out
   have g2:wz.cell? ⟨n+1,2,none⟩=some (.slice none 0 0):=cell_of_row wz _ 2 _ _ _ HGZ.out
   have g3:wz.cell? ⟨n+1,3,none⟩=some (.int .i64 0):=cell_of_row wz _ 3 _ _ _ HGZ.out
   have f0:=frozen_of_row wz _ 0 _ _ HGZ.out
   have f1:=frozen_of_row wz _ 1 _ _ HGZ.out
   have f2:=frozen_of_row wz _ 2 _ _ HGZ.out
   have f3:=frozen_of_row wz _ 3 _ _ HGZ.out
   have hgz:=(Array.getElem?_eq_some_iff.1 HGZ.out).1
   have HOF:Hid (Off9 wz wz.heap.size (some (n+1))):=aA ⟨fun g e=>by injection e with e;subst e;exact⟨_,_,HGZ.out,by decide,by decide,by decide,.inl ⟨by decide,by decide⟩⟩⟩
   have HGR:=aA (fun u0 u1 u2 u3=>(HZW.out.more (N':=wz.heap.size) (by rw[hzs];exact Nat.le_refl _)).grown (aD (aD (aD (aD (World.grownBy.refl wz (some (n+1))) 0 u0) 1 u1) 2 u2) 3 u3) HOF.out)
   clear hzw hzs
   go_wp2
   refine bodyPost_ret (v:=.tuple #[.agg #[.slice AT ts.length cT,.slice AN ns.length cN,.slice AR rs.length cR,.int .i64 0],.complex .f64 0 0,.int .i64 0]) (by simp[results,Tryz.results33,go_sem,g0,g1,g2,g3]) rfl ?_
   rw[HG.out]
   refine⟨⟨_,rfl,⟨_,_,_,_,_,_,_,rfl,HGR.out _ _ _ _,by simp⟩,HF.out⟩,?_⟩
   rw[←HNN.out]
   exact(((HWB.out.setCell (by simp only;omega) _).setCell (by simp only;omega) _).setCell (by simp only;omega) _).setCell (by simp only;omega) _
end Go.Proofs.YtkfelkpilaipnaaGreatDoor
namespace Go.Proofs.YtkfelkpilaipnaaGreatDoor
set_option maxRecDepth 100000
set_option maxHeartbeats 40000000
namespace Y
theorem zaf {ks:List Int} {ts:List Tok} {t:Tok} {r:List Tok} (h:take ks ts=.ok t r):ts=[t]++r:=(take_ok h).1
theorem zc3 {ks:List Int} {t:Tok} (h:ks.contains t.k=true) (hk:∀z∈ks,z≠1∧z≠2):isRef t=false:=by
 rcases hq:isRef t with _|_
 ·rfl
 ·exfalso
  unfold isRef at hq
  rw[List.contains_iff_mem]at h hq
  have:=hk _ h
  simp at hq
  omega
theorem zjj {ks:List Int} {t:Tok} (h:ks.contains t.k=true) (hk:∀z∈ks,z=1∨z=2):isRef t=true:=by
 unfold isRef
 rw[List.contains_iff_mem]at h ⊢
 have:=hk _ h
 simp
 omega
theorem zeR (ts:List Tok):ts=ts.takeWhile isRef++ts.dropWhile isRef:=(List.takeWhile_append_dropWhile).symm
theorem zaQ:∀ts:List Tok,(ts.takeWhile isRef).filter isRef=ts.takeWhile isRef
 | []=>rfl
 | t::r=>by
  rw[List.takeWhile_cons]
  rcases h:isRef t with _|_
  ·rfl
  ·simp only[if_true]
   rw[List.filter_cons_of_pos h,zaQ r]
theorem zgI {ts r:List Tok} {d:Dcl} (h:decl ts=.ok d r):∃u,ts=u++r∧u.filter isRef=d.ns∧1≤u.length:=by
 unfold decl at h
 obtain⟨t,m,h1,h2⟩:=bind_eq_ok h
 have e1:=zaf h1
 have n1:=zc3 (take_ok h1).2 (by decide)
 split at h2
 ·obtain⟨n,m2,h3,h4⟩:=bind_eq_ok h2
  injection h4 with h5 h6
  subst h5 h6
  have e2:=zaf h3
  have n2:=zjj (take_ok h3).2 (by decide)
  exact⟨[t]++[n],by rw[e1,e2];simp,by simp[n1,n2],by simp⟩
 ·obtain⟨n,m2,h3,h4⟩:=bind_eq_ok h2
  injection h4 with h5 h6
  subst h5 h6
  have e2:=zaf h3
  have n2:=zjj (take_ok h3).2 (by decide)
  refine⟨[t]++([n]++m2.takeWhile isRef),?_,?_,by simp⟩
  ·rw[e1,e2]
   simp only[List.append_assoc]
   rw[←zeR m2]
  ·simp only[List.singleton_append,List.filter_cons,n1,n2]
   simp[zaQ]
theorem zcB:∀(f:Nat) (acc:List Dcl) (ts:List Tok) (ds:List Dcl) (r:List Tok),decls f acc ts=.ok ds r→∃u ds',ts=u++r∧ds=acc++ds'∧u.filter isRef=ds'.flatMap Dcl.refs∧ds'.length≤u.length
 | 0,acc,ts,ds,r,h=>by injection h with h1 h2;subst h1 h2;exact⟨[],[],rfl,by simp,rfl,Nat.le_refl _⟩
 | f+1,acc,ts,ds,r,h=>by
  rw[decls]at h
  split at h
  ·injection h with h1 h2;subst h1 h2;exact⟨[],[],rfl,by simp,rfl,Nat.le_refl _⟩
  ·obtain⟨d,m,h1,h2⟩:=bind_eq_ok h
   obtain⟨u1,e1,f1,l1⟩:=zgI h1
   obtain⟨u2,ds',e2,g2,f2,l2⟩:=zcB f _ _ _ _ h2
   exact⟨u1++u2,d::ds',by rw[e1,e2,List.append_assoc],by rw[g2];simp,by rw[List.filter_append,f1,f2];simp[Dcl.refs],by simp;omega⟩
structure RuleIn (u:List Tok) (left:Tok) (p:Prd):Prop where
 l:p.l=left
 f:u.filter isRef=p.refs
 p:∀t,p.p=some t→t∈u∧isRef t=true
theorem zgc {left:Tok} {ts r:List Tok} {p:Prd} (h:rule left ts=.ok p r):∃u,ts=u++r∧RuleIn u left p:=by
 unfold rule rule2 at h
 split at h
 ·obtain⟨t,m,h1,h2⟩:=bind_eq_ok h
  obtain⟨q,m2,h3,h4⟩:=bind_eq_ok h2
  injection h4 with h5 h6
  subst h5 h6
  have e1:=zaf h1
  have n1:=zc3 (take_ok h1).2 (by decide)
  have e2:=zaf h3
  have n2:=zjj (take_ok h3).2 (by decide)
  refine⟨ts.takeWhile isRef++([t]++[q]),?_,rfl,?_,?_⟩
  ·conv=>lhs;rw[zeR ts,e1,e2]
   simp
  ·rw[List.filter_append,zaQ]
   simp[n1,n2,Prd.refs]
  ·intro t' ht'
   injection ht' with ht'
   subst ht'
   exact⟨by simp,n2⟩
 ·injection h with h5 h6
  subst h5 h6
  exact⟨ts.takeWhile isRef,zeR ts,rfl,by rw[zaQ];simp[Prd.refs],fun t ht=>by cases ht⟩
structure AltsIn (u:List Tok) (left:Tok) (ps:List Prd):Prop where
 l:∀p∈ps,p.l=left
 f:u.filter isRef=ps.flatMap Prd.refs
 p:∀p∈ps,∀t,p.p=some t→t∈u∧isRef t=true
 n:ps.length≤u.length
theorem zbP (left:Tok):∀(f:Nat) (acc:List Prd) (ts:List Tok) (ps:List Prd) (r:List Tok),alts f left acc ts=.ok ps r→∃u ps',ts=u++r∧ps=acc++ps'∧AltsIn u left ps'∧(f≠0→ps'≠[])
 | 0,acc,ts,ps,r,h=>by injection h with h1 h2;subst h1 h2;exact⟨[],[],rfl,by simp,⟨fun p hp=>absurd hp (by simp),rfl,fun p hp=>absurd hp (by simp),Nat.le_refl _⟩,fun h=>absurd rfl h⟩
 | f+1,acc,ts,ps,r,h=>by
  rw[alts]at h
  obtain⟨p,m,h1,h2⟩:=bind_eq_ok h
  obtain⟨t,m2,h3,h4⟩:=bind_eq_ok h2
  obtain⟨u1,e1,i1⟩:=zgc h1
  have e2:=zaf h3
  have n2:=zc3 (take_ok h3).2 (by decide)
  split at h4
  ·obtain⟨u3,ps',e3,g3,i3,_⟩:=zbP left f _ _ _ _ h4
   refine⟨u1++([t]++u3),p::ps',by rw[e1,e2,e3];simp,by rw[g3];simp,⟨?_,?_,?_,?_⟩,fun _=>by simp⟩
   ·intro q hq
    rcases List.mem_cons.1 hq with rfl|hq
    ·exact i1.l
    ·exact i3.l q hq
   ·rw[List.filter_append,i1.f,List.filter_append,i3.f];simp[n2]
   ·intro q hq t' ht'
    rcases List.mem_cons.1 hq with rfl|hq
    ·have:=i1.p t' ht';exact⟨by simp[this.1],this.2⟩
    ·have:=i3.p q hq t' ht';exact⟨by simp[this.1],this.2⟩
   ·have:=i3.n;simp;omega
  ·injection h4 with h5 h6
   subst h5 h6
   refine⟨u1++[t],[p],by rw[e1,e2];simp,rfl,⟨?_,?_,?_,by simp⟩,fun _=>by simp⟩
   ·intro q hq;rw[List.mem_singleton]at hq;subst hq;exact i1.l
   ·rw[List.filter_append,i1.f];simp[n2]
   ·intro q hq t' ht'
    rw[List.mem_singleton]at hq
    subst hq
    have:=i1.p t' ht'
    exact⟨by simp[this.1],this.2⟩
theorem zcx {acc ps:List Prd} {ts r:List Tok} (h:group acc ts=.ok ps r):∃left u ps',ts=([left]++u)++r∧ps=acc++ps'∧isRef left=true∧AltsIn u left ps'∧ps'≠[]:=by
 unfold group at h
 obtain⟨left,m,h1,h2⟩:=bind_eq_ok h
 obtain⟨t,m2,h3,h4⟩:=bind_eq_ok h2
 have e1:=zaf h1
 have n1:=zjj (take_ok h1).2 (by decide)
 have e2:=zaf h3
 have n2:=zc3 (take_ok h3).2 (by decide)
 obtain⟨u3,ps',e3,g3,i3,n3⟩:=zbP left _ _ _ _ _ h4
 refine⟨left,[t]++u3,ps',by rw[e1,e2,e3];simp,g3,n1,⟨i3.l,?_,?_,?_⟩,n3 (by omega)⟩
 ·rw[List.filter_append,i3.f];simp[n2]
 ·intro q hq t' ht'
  have:=i3.p q hq t' ht'
  exact⟨by simp[this.1],this.2⟩
 ·have:=i3.n;simp;omega
theorem zeh {left:Tok}:∀(ps rs:List Prd) (q:Option Nat),ps≠[]→(∀p∈ps,p.l=left)→q≠some left.o→prefs q (ps++rs)=left::ps.flatMap Prd.refs++prefs (some left.o) rs
 | [],_,_,h,_,_=>absurd rfl h
 | p::r,rs,q,_,h,hq=>by
  have hp:=h p (by simp)
  rw[List.cons_append,prefs,hp,if_neg hq]
  cases r with
  | nil=>simp
  | cons x y =>
   have hall:∀p∈x::y,p.l=left:=fun z hz=>h z (by simp only[List.mem_cons]at hz ⊢;exact .inr hz)
   have:∀(zs:List Prd),(∀p∈zs,p.l=left)→prefs (some left.o) (zs++rs)=zs.flatMap Prd.refs++prefs (some left.o) rs:=by
    intro zs
    induction zs with
    | nil=>intro _;rfl
    | cons a b ih =>
     intro hz
     rw[List.cons_append,prefs,hz a (by simp),if_pos rfl,ih (fun w hw=>hz w (by simp[hw]))]
     simp
   rw[this _ hall]
   simp
theorem zbT:∀(f:Nat) (acc:List Prd) (ts:List Tok) (ps:List Prd) (r:List Tok),groups f acc ts=.ok ps r→ts.Pairwise (fun a b=>a.o<b.o)→∀q:Option Nat,(∀t∈ts,q≠some t.o) →
  ∃u ps',ts=u++r∧ps=acc++ps'∧prefs q ps'=u.filter isRef∧(∀p∈ps',p.l∈u∧isRef p.l=true∧∀t,p.p=some t→t∈u∧isRef t=true)∧ps'.length≤u.length
 | 0,acc,ts,ps,r,h,_,q,_=>by injection h with h1 h2;subst h1 h2;exact⟨[],[],rfl,by simp,rfl,fun p hp=>absurd hp (by simp),Nat.le_refl _⟩
 | f+1,acc,ts,ps,r,h,hpw,q,hq=>by
  rw[groups]at h
  split at h
  ·obtain⟨ps1,m,h1,h2⟩:=bind_eq_ok h
   obtain⟨left,u1,ps',e1,g1,n1,i1,hne⟩:=zcx h1
   have hpm:m.Pairwise (fun a b=>a.o<b.o):=by rw[e1]at hpw;exact(List.pairwise_append.1 hpw).2.1
   have hlm:∀t∈m,some left.o≠some t.o:=by
    intro t ht e
    rw[e1]at hpw
    have:=(List.pairwise_append.1 hpw).2.2 left (by simp) t ht
    injection e with e
    omega
   obtain⟨u2,ps2,e2,g2,f2,k2,l2⟩:=zbT f _ _ _ _ h2 hpm (some left.o) hlm
   refine⟨([left]++u1)++u2,ps'++ps2,by rw[e1,e2];simp,by rw[g2,g1,List.append_assoc],?_,?_,?_⟩
   ·rw[zeh ps' ps2 q hne i1.l (hq left (by rw[e1];simp)),f2,List.filter_append,List.filter_append,i1.f]
    simp[n1]
   ·intro p hp
    rcases List.mem_append.1 hp with hp|hp
    ·have hl:=i1.l p hp
     refine⟨by rw[hl];simp,by rw[hl];exact n1,fun t ht=>?_⟩
     have:=i1.p p hp t ht
     exact⟨by simp[this.1],this.2⟩
    ·have:=k2 p hp
     exact⟨by simp[this.1],this.2.1,fun t ht=>⟨by simp[(this.2.2 t ht).1],(this.2.2 t ht).2⟩⟩
   ·have:=i1.n;simp;omega
  ·injection h with h1 h2;subst h1 h2;exact⟨[],[],rfl,by simp,rfl,fun p hp=>absurd hp (by simp),Nat.le_refl _⟩
structure SourceIn (xs:List Tok) (s:List Dcl×List Prd):Prop where
 l:listed s.1 s.2=xs.filter isRef
 d:s.1.length≤xs.length
 p:s.2.length≤xs.length
 n:s.2.length≠0
 i:∀p∈s.2,p.l∈xs∧isRef p.l=true∧∀t,p.p=some t→t∈xs∧isRef t=true
theorem zf5 {ts r:List Tok} {v:Unit} (h:tail ts=.ok v r):∃u,ts=u++r∧u.filter isRef=[]∧r=[]:=by
 have t2:∀ {ts r:List Tok} {v:Unit},tail2 ts=.ok v r→ts=[]∧r=[]:=by
  intro ts r v h
  unfold tail2 at h
  split at h
  ·rename_i h0
   injection h with _ h2
   have:=List.eq_nil_of_length_eq_zero h0
   exact⟨this,by rw[←h2,this]⟩
  ·obtain⟨t,m,h1,_⟩:=bind_eq_ok h
   have:=(take_ok h1).2
   simp at this
 unfold tail at h
 split at h
 ·obtain⟨t,m,h1,h2⟩:=bind_eq_ok h
  have e1:=zaf h1
  have n1:=zc3 (take_ok h1).2 (by decide)
  obtain⟨e2,e3⟩:=t2 h2
  exact⟨[t],by rw[e1,e2,e3],by simp[n1],e3⟩
 ·obtain⟨e2,e3⟩:=t2 h
  exact⟨[],by rw[e2,e3];rfl,rfl,e3⟩
theorem source_in {xs r:List Tok} {s:List Dcl×List Prd} (h:source xs=.ok s r) (hpw:xs.Pairwise (fun a b=>a.o<b.o)):SourceIn xs s:=by
 unfold source at h
 obtain⟨ds,m1,h1,h⟩:=bind_eq_ok h
 obtain⟨t9,m2,h2,h⟩:=bind_eq_ok h
 obtain⟨ps1,m3,h3,h⟩:=bind_eq_ok h
 obtain⟨ps,m4,h4,h⟩:=bind_eq_ok h
 obtain⟨v,m5,h5,h⟩:=bind_eq_ok h
 injection h with h6 h7
 subst h6 h7
 obtain⟨u1,ds',e1,g1,f1,l1⟩:=zcB _ _ _ _ _ h1
 have e2:=zaf h2
 have n2:=zc3 (take_ok h2).2 (by decide)
 obtain⟨left,u3,ps',e3,g3,n3,i3,hne⟩:=zcx h3
 have hx:xs=u1++([t9]++(([left]++u3)++m3)):=by rw[e1,e2,e3]
 have hp3:m3.Pairwise (fun a b=>a.o<b.o):=by
  rw[hx]at hpw
  exact(List.pairwise_append.1 (List.pairwise_append.1 (List.pairwise_append.1 hpw).2.1).2.1).2.1
 have hlm:∀t∈m3,some left.o≠some t.o:=by
  intro t ht e
  rw[hx]at hpw
  have:=(List.pairwise_append.1 (List.pairwise_append.1 (List.pairwise_append.1 hpw).2.1).2.1).2.2 left (by simp) t ht
  injection e with e
  omega
 obtain⟨u4,ps2,e4,g4,f4,k4,l4⟩:=zbT _ _ _ _ _ h4 hp3 (some left.o) hlm
 obtain⟨u5,e5,f5,e6⟩:=zf5 h5
 have hx2:xs=u1++([t9]++(([left]++u3)++(u4++u5))):=by rw[hx,e4,e5,e6,List.append_nil]
 have hps:ps=ps'++ps2:=by rw[g4,g3];simp
 have hds:ds=ds':=by rw[g1];simp
 refine⟨?_,?_,?_,?_,?_⟩
 ·simp only
  rw[hx2]
  unfold listed
  rw[hps,hds,zeh ps' ps2 none hne i3.l (by simp),f4]
  simp only[List.filter_append,f1,f5,i3.f]
  simp[n2,n3]
 ·simp only
  rw[hx2,hds];simp;omega
 ·simp only
  have:=i3.n
  rw[hx2,hps];simp;omega
 ·simp only
  rw[hps]
  intro h0
  rw[List.length_append]at h0
  exact hne (List.eq_nil_of_length_eq_zero (by omega))
 ·simp only
  rw[hps,hx2]
  intro p hp
  rcases List.mem_append.1 hp with hp|hp
  ·have hl:=i3.l p hp
   refine⟨by rw[hl];simp,by rw[hl];exact n3,fun t ht=>?_⟩
   have:=i3.p p hp t ht
   exact⟨by simp[this.1],this.2⟩
  ·have:=k4 p hp
   exact⟨by simp[this.1],this.2.1,fun t ht=>⟨by simp[(this.2.2 t ht).1],(this.2.2 t ht).2⟩⟩
end Y
namespace Y
def zjG (d:Dcl):Prop:=(d.k=3∨d.k=4∨d.k=5∨d.k=6∨d.k=7)∧d.ns≠[]∧(d.k=7→∀x∈d.ns,x.k=1)
theorem zil {ts r:List Tok} {d:Dcl} (h:decl ts=.ok d r):zjG d:=by
 unfold decl at h
 obtain⟨t,m,h1,h2⟩:=bind_eq_ok h
 have k0:=(take_ok h1).2
 simp at k0
 split at h2
 ·obtain⟨n,m2,h3,h4⟩:=bind_eq_ok h2
  injection h4 with h5 h6
  subst h5
  have k1:=(take_ok h3).2
  simp at k1
  exact⟨.inr (.inr (.inr (.inr rfl))),by simp,fun _ x hx=>by simp at hx;subst hx;exact k1⟩
 ·rename_i h7
  obtain⟨n,m2,h3,h4⟩:=bind_eq_ok h2
  injection h4 with h5 h6
  subst h5
  exact⟨by simp only;omega,by simp,fun e=>absurd e h7⟩
theorem zdg:∀(f:Nat) (acc:List Dcl) (ts:List Tok) (ds:List Dcl) (r:List Tok),(∀d∈acc,zjG d)→decls f acc ts=.ok ds r→∀d∈ds,zjG d
 | 0,acc,ts,ds,r,ha,h=>by injection h with h1 h2;subst h1;exact ha
 | f+1,acc,ts,ds,r,ha,h=>by
  rw[decls]at h
  split at h
  ·injection h with h1 h2;subst h1;exact ha
  ·obtain⟨d,m,h1,h2⟩:=bind_eq_ok h
   refine zdg f _ _ _ _ (fun x hx=>?_) h2
   rcases List.mem_append.1 hx with q|q
   ·exact ha x q
   ·simp at q;subst q;exact zil h1
theorem zdd {acc ps:List Prd} {ts r:List Tok} (ha:∀p∈acc,p.l.k=1) (h:group acc ts=.ok ps r):∀p∈ps,p.l.k=1:=by
 unfold group at h
 obtain⟨left,m,h1,h2⟩:=bind_eq_ok h
 obtain⟨t,m2,h3,h4⟩:=bind_eq_ok h2
 have k0:=(take_ok h1).2
 simp at k0
 obtain⟨u3,ps',e3,g3,i3,n3⟩:=zbP left _ _ _ _ _ h4
 intro p hp
 rw[g3]at hp
 rcases List.mem_append.1 hp with q|q
 ·exact ha p q
 ·rw[i3.l p q];exact k0
theorem zcv:∀(f:Nat) (acc:List Prd) (ts:List Tok) (ps:List Prd) (r:List Tok),(∀p∈acc,p.l.k=1)→groups f acc ts=.ok ps r→∀p∈ps,p.l.k=1
 | 0,acc,ts,ps,r,ha,h=>by injection h with h1 h2;subst h1;exact ha
 | f+1,acc,ts,ps,r,ha,h=>by
  rw[groups]at h
  split at h
  ·obtain⟨ps1,m,h1,h2⟩:=bind_eq_ok h
   exact zcv f _ _ _ _ (zdd ha h1) h2
  ·injection h with h1 h2;subst h1;exact ha
theorem source_fine {xs r:List Tok} {s:List Dcl×List Prd} (h:source xs=.ok s r):(∀d∈s.1,zjG d)∧∀p∈s.2,p.l.k=1:=by
 unfold source at h
 obtain⟨ds,m1,h1,h⟩:=bind_eq_ok h
 obtain⟨t9,m2,h2,h⟩:=bind_eq_ok h
 obtain⟨ps1,m3,h3,h⟩:=bind_eq_ok h
 obtain⟨ps,m4,h4,h⟩:=bind_eq_ok h
 obtain⟨v,m5,h5,h⟩:=bind_eq_ok h
 injection h with h6 h7
 subst h6
 exact⟨zdg _ _ _ _ _ (by simp) h1,zcv _ _ _ _ _ (zdd (by simp) h3) h4⟩
theorem mem_prefs:∀(ps:List Prd) (q:Option Nat) (p:Prd),p∈ps→∀x∈p.refs,x∈prefs q ps
 | [],_,_,hp,_,_=>by simp at hp
 | y::r,q,p,hp,x,hx=>by
  rw[prefs]
  rcases List.mem_cons.1 hp with e|e
  ·subst e;simp[hx]
  ·have:=mem_prefs r (some y.l.o) p e x hx
   simp[this]
end Y
theorem zg3 {L:List Int} {x:Tok} (h:Stands L x) (hr:Y.isRef x=true):Gm.named x.t=true∧K.Bytes x.t:=by
 refine⟨?_,h.bytes⟩
 unfold Gm.named
 rw[←h.name,←h.lit]
 unfold Y.isRef at hr
 simp at hr
 rcases hr with e|e <;> simp[e]
theorem zce {L:List Int} {xs r:List Tok} {s:List Y.Dcl×List Y.Prd} (hx:zgV L L.length xs) (h:Y.source xs=.ok s r):Gm.Good s.1 s.2:=by
 obtain⟨hd,hp⟩:=Y.source_fine h
 have hin:=Y.source_in h hx.2
 have hm:∀x∈Y.listed s.1 s.2,Gm.named x.t=true∧K.Bytes x.t:=fun x hx'=>by
  rw[hin.l]at hx'
  obtain⟨h1,h2⟩:=List.mem_filter.1 hx'
  exact zg3 (hx.1 x h1).1 h2
 have hdm:∀d∈s.1,∀x∈d.ns,x∈Y.listed s.1 s.2:=fun d hd x hx'=>by
  unfold Y.listed
  exact List.mem_append_left _ (List.mem_flatMap.2 ⟨d,hd,hx'⟩)
 have hpm:∀p∈s.2,∀x∈p.refs,x∈Y.listed s.1 s.2:=fun p hp x hx'=>by
  unfold Y.listed
  exact List.mem_append_right _ (Y.mem_prefs _ _ p hp x hx')
 have hone:∀x∈Y.listed s.1 s.2,x.k=1→T.isName x.t=true:=fun x hx' hk=>by
  rw[hin.l]at hx'
  have:=(hx.1 x (List.mem_filter.1 hx').1).1.name
  rw[←this,hk];rfl
 refine⟨fun d h=>(hd d h).1,fun d h=>(hd d h).2.1,fun d h x hx'=>hm x (hdm d h x hx'),fun d h h7 x hx'=>hone x (hdm d h x hx') ((hd d h).2.2 h7 x hx'),fun e=>hin.n (by rw[e];rfl),fun p h=>?_,fun p h x hx'=>hm x (hpm p h x (by unfold Y.Prd.refs;exact List.mem_append_left _ hx')),fun p h x hx'=>hm x (hpm p h x (by unfold Y.Prd.refs;rw[hx'];simp))⟩
 obtain⟨h1,h2,_⟩:=hin.i p h
 have hs:=(hx.1 _ h1).1
 exact⟨by rw[←hs.name,hp p h];rfl,hs.bytes⟩
end Go.Proofs.YtkfelkpilaipnaaGreatDoor
namespace Go.Proofs.YtkfelkpilaipnaaGreatDoor
set_option maxRecDepth 100000
set_option maxHeartbeats 40000000
open Go.RowKit
def rd (L:List Int):Option (Gm.R Gm.Gr):=match zdV L with
 | .bad _ _=>none
 | .ok xs=>match Y.source xs with
  | .ok s _=>some (Gm.build s.1 s.2)
  | .bad _=>none
def zdQ (L:List Int) (w':World) (e:Ending):Prop:=match rd L with
 | some r=>zaK L w' r e
 | none=>∃X Y er,er≠0∧e=.returned (.tuple #[.agg #[.slice none 0 0,.slice none 0 0,.slice none 0 0,.int .i64 0],.complex .f64 X Y,.int .i64 er])
theorem ziX {L:List Int} {G:Gm.Gr} (hl:K.Bytes L) (h:rd L=some (.ok G)):Gm.Built G:=by
 unfold rd at h
 rcases ht:zdV L with xs|⟨o,d⟩
 ·rw[ht]at h
  simp only at h
  rcases hs:Y.source xs with⟨s,r⟩|p
  ·rw[hs]at h
   simp only[Option.some.injEq]at h
   exact Gm.build_ok (zce (zbo L hl xs ht) hs) h
  ·rw[hs]at h;cases h
 ·rw[ht]at h;cases h
theorem zeg:∀(ps:List Y.Prd) (q:Option Nat),∀p∈ps,p.refs.length≤(Y.prefs q ps).length
 | [],_,p,hp=>by simp at hp
 | y::r,q,p,hp=>by
  rw[Y.prefs]
  rcases List.mem_cons.1 hp with e|e
  ·subst e;simp only[List.length_append];omega
  ·have:=zeg r (some y.l.o) p e;simp only[List.length_append];omega
theorem flat_len:∀(ds:List Y.Dcl),∀d∈ds,d.ns.length≤(ds.flatMap (·.ns)).length
 | [],d,hd=>by simp at hd
 | y::r,d,hd=>by
  rw[List.flatMap_cons,List.length_append]
  rcases List.mem_cons.1 hd with e|e
  ·subst e;omega
  ·have:=flat_len r d e;omega
theorem ziP {xs:List Tok} {s:List Y.Dcl×List Y.Prd} (hin:Y.SourceIn xs s):(∀d∈s.1,d.ns.length≤xs.length)∧∀p∈s.2,p.r.length≤xs.length:=by
 have hl:(Y.listed s.1 s.2).length≤xs.length:=by rw[hin.l];exact List.length_filter_le _ _
 unfold Y.listed at hl
 rw[List.length_append]at hl
 refine⟨fun d hd=>?_,fun p hp=>?_⟩
 ·exact Nat.le_trans (flat_len s.1 d hd) (Nat.le_trans (Nat.le_add_right _ _) hl)
 ·have h1:=zeg s.2 none p hp
  have h2:p.r.length≤p.refs.length:=by unfold Y.Prd.refs;simp
  omega
theorem zbC (A:Option Addr) (c m:Nat) (w:World) (d:Int) (hd:d≠0) (X Y:Nat)
  (hp:∀w1:World,Below w.heap.size w w1→Calls Tryz.prog 30 #[.slice A m c] w1 fun e w'=>e=.returned (.tuple #[.agg #[.slice none 0 0,.slice none 0 0],.complex .f64 X Y,.int .i64 d])∧Below w1.heap.size w1 w') :
  Calls Tryz.prog 15 #[.slice A m c] w fun e w'=>e=.returned (.tuple #[.agg #[.slice none 0 0,.slice none 0 0,.slice none 0 0,.int .i64 0],.complex .f64 X Y,.int .i64 d])∧Below w.heap.size w w':=by
 have SC:=fun a w m X Y=>show(store a (.complex .f64 X Y) m).run Tryz.prog w=stored Tryz.prog w a (.complex .f64 X Y) m from run_store _ w a _ m rfl
 have hbg:=fun w=>zfX w
 have HP:=aA (hp _ ((Below.refl w.heap.size w).alloc (Nat.le_refl _) (.cells grC 26)))
 have hd0:(d != 0)=true:=by simpa using hd
 have HB1:=aA ((Below.refl w.heap.size w).alloc (Nat.le_refl _) (.cells grC 26))
 have HG1:=aA (heap_alloc_new w (.cells grC 26))
 unfold grC at HP HB1
 clear hp hd
 go_enter Tryz.func15,Tryz.ntmps15
 go_wp2_with fail
 refine HP.out.mono ?_;rintro _ w2 ⟨rfl,hb2⟩
 have hgb:=(hb2.block w.heap.size (by simp)).trans HG1.out
 have g0:w2.cell? ⟨w.heap.size,0,none⟩=some (.slice none 0 0):=cell_of_row w2 _ 0 _ _ _ hgb
 have g1:w2.cell? ⟨w.heap.size,1,none⟩=some (.slice none 0 0):=cell_of_row w2 _ 1 _ _ _ hgb
 have g2:w2.cell? ⟨w.heap.size,2,none⟩=some (.slice none 0 0):=cell_of_row w2 _ 2 _ _ _ hgb
 have g3:w2.cell? ⟨w.heap.size,3,none⟩=some (.int .i64 0):=cell_of_row w2 _ 3 _ _ _ hgb
 have f0:=frozen_of_row w2 _ 0 _ _ hgb
 have f1:=frozen_of_row w2 _ 1 _ _ hgb
 have f2:=frozen_of_row w2 _ 2 _ _ hgb
 have f3:=frozen_of_row w2 _ 3 _ _ hgb
 have hgz:=(Array.getElem?_eq_some_iff.1 hgb).1
 have HB2:=aA (HB1.out.trans (hb2.mono HB1.out.size))
 clear hb2 hgb
 have hca:∀(x:World) (o:Obj) (j:Nat),w.heap.size<x.heap.size→(x.alloc o).cell? ⟨w.heap.size,j,none⟩=x.cell? ⟨w.heap.size,j,none⟩:=fun x o j h=>((Below.refl x.heap.size x).alloc (Nat.le_refl _) o).cell (p:=⟨_,j,none⟩) h
 go_wp2
 refine bodyPost_ret (v:=.tuple #[.agg #[.slice none 0 0,.slice none 0 0,.slice none 0 0,.int .i64 0],.complex .f64 X Y,.int .i64 d]) (by simp[results,Tryz.results15,go_sem,g0,g1,g2,g3,hca,hgz]) rfl ?_
 refine⟨rfl,?_⟩
 exact(aL (aL (aL (aL HB2.out _ (Nat.le_refl _)) _ (Nat.le_refl _)) _ (Nat.le_refl _)) _ (Nat.le_refl _)).alloc (by simpa using HB2.out.size) _
theorem ziW (A:Option Addr) (c m:Nat) (L:List Int) (ds:List Y.Dcl) (ps:List Y.Prd) (w:World)
  (hp:∀w1:World,Below w.heap.size w w1→Calls Tryz.prog 30 #[.slice A m c] w1 fun e w'=>∃dv pv,e=.returned (.tuple #[.agg #[dv,pv],.complex .f64 0 0,.int .i64 0])∧bI L w' w1.heap.size dv ds∧bG L w' w1.heap.size pv ps∧Below w1.heap.size w1 w')
  (hg:Gm.Good ds ps) (hdl:ds.length≤1000000) (hpl:ps.length≤1000000) (hdk:∀d∈ds,d.ns.length≤1000000) (hpk:∀p∈ps,p.r.length≤1000000) :
  Calls Tryz.prog 15 #[.slice A m c] w fun e w'=>zaK L w' (Gm.build ds ps) e∧Below w.heap.size w w':=by
 have SC:=fun a w m X Y=>show(store a (.complex .f64 X Y) m).run Tryz.prog w=stored Tryz.prog w a (.complex .f64 X Y) m from run_store _ w a _ m rfl
 have HP:=aA (hp _ ((Below.refl w.heap.size w).alloc (Nat.le_refl _) (.cells grC 26)))
 have HB1:=aA ((Below.refl w.heap.size w).alloc (Nat.le_refl _) (.cells grC 26))
 have HG1:=aA (heap_alloc_new w (.cells grC 26))
 have HBA:=aA (fun(x:World) (A1 A2:Option Addr) (c1 c2:Nat) (h1:ziE L x x.heap.size A1 ds) (h2:zgW L x x.heap.size A2 ps)=>zis L ds ps A1 A2 c1 c2 x h1 h2 hg hdl hpl hdk hpk)
 unfold grC at HP HB1
 clear hp hg hdl hpl hdk hpk
 go_enter Tryz.func15,Tryz.ntmps15
 go_wp2_with fail
 refine HP.out.mono ?_;rintro _ w2 ⟨dv,pv,rfl,hod,hop,hb2⟩
 obtain⟨A1,c1,rfl,hrd⟩:=zeB hod
 obtain⟨A2,c2,rfl,hrp⟩:=zej hop
 have hgb:=(hb2.block w.heap.size (by simp)).trans HG1.out
 have HGB:=aA hgb
 have HB2:=aA (HB1.out.trans (hb2.mono HB1.out.size))
 have hgz:=(Array.getElem?_eq_some_iff.1 hgb).1
 obtain⟨w3,hw3⟩:∃x,x=w2.alloc (.cells #[.slice A1 ds.length c1,.slice A2 ps.length c2] 60):=⟨_,rfl⟩
 have HB3:Hid (Below w.heap.size w w3):=aA (by rw[hw3];exact HB2.out.alloc HB2.out.size _)
 have hb23:Below w2.heap.size w2 w3:=by rw[hw3];exact(Below.refl _ _).alloc (Nat.le_refl _) _
 have HG3:Hid (w3.heap[w.heap.size]?=some (.cells grC 26 (0,0))):=aA ((hb23.block _ hgz).trans hgb)
 have hs3:w2.heap.size≤w3.heap.size:=hb23.size
 have HC:=aA (HBA.out w3 A1 A2 c1 c2 (fun hn=>by
   obtain⟨g,o,e,h1,h2⟩:=(hrd.keep hb23) hn
   refine⟨g,o,e,by omega,fun i hi=>?_⟩
   obtain⟨k1,A',c',k2,k3⟩:=h2 i hi
   exact⟨k1,A',c',k2,fun hn=>by obtain⟨g,o,e,q1,q2⟩:=k3 hn;exact⟨g,o,e,by omega,q2⟩⟩) (fun hn=>by
   obtain⟨g,o,e,h1,h2⟩:=(hrp.keep hb23) hn
   refine⟨g,o,e,by omega,fun i hi=>?_⟩
   obtain⟨k1,k2,⟨A',c',k3,k4⟩,k5⟩:=h2 i hi
   exact⟨k1,k2,⟨A',c',k3,fun hn=>by obtain⟨g,o,e,q1,q2⟩:=k4 hn;exact⟨g,o,e,by omega,q2⟩⟩,k5⟩))
 rw[hw3]at HC HB3 HG3
 clear hb2 hgb hod hop hrd hrp hw3 hb23 hs3 HBA
 go_wp2_with fail
 refine HC.out.mono ?_;rintro _ w4 ⟨hans,hb4⟩
 have hgb:=(hb4.block w.heap.size (by simp;omega)).trans HG3.out
 have g0:w4.cell? ⟨w.heap.size,0,none⟩=some (.slice none 0 0):=cell_of_row w4 _ 0 _ _ _ hgb
 have g1:w4.cell? ⟨w.heap.size,1,none⟩=some (.slice none 0 0):=cell_of_row w4 _ 1 _ _ _ hgb
 have g2:w4.cell? ⟨w.heap.size,2,none⟩=some (.slice none 0 0):=cell_of_row w4 _ 2 _ _ _ hgb
 have g3:w4.cell? ⟨w.heap.size,3,none⟩=some (.int .i64 0):=cell_of_row w4 _ 3 _ _ _ hgb
 have f0:=frozen_of_row w4 _ 0 _ _ hgb
 have f1:=frozen_of_row w4 _ 1 _ _ hgb
 have f2:=frozen_of_row w4 _ 2 _ _ hgb
 have f3:=frozen_of_row w4 _ 3 _ _ hgb
 have hgz4:=(Array.getElem?_eq_some_iff.1 hgb).1
 have HGB4:=aA hgb
 have HB4:=aA (HB3.out.trans (hb4.mono HB3.out.size))
 clear hb4 hgb
 rcases hq:Gm.build ds ps with G|⟨y,er⟩
 ·rw[hq]at hans
  obtain⟨v,rfl,B,N,R,cs,vT,vN,vR,Ms,Mt,ml,tl,rfl,h,hN⟩:=hans
  obtain⟨AT,mT,cT,rfl⟩:=zab h.t
  obtain⟨AN,mN,cN,rfl⟩:=zab h.n
  obtain⟨AR,cR,rfl,_,_⟩:=aM h.r
  have HGR:=aA (fun u0 u1 u2 u3=>h.grown (aD (aD (aD (aD (World.grownBy.refl w4 (some w.heap.size)) 0 u0) 1 u1) 2 u2) 3 u3) (⟨fun g e=>by injection e with e;subst e;exact⟨_,_,HGB4.out,by decide,by decide,by decide,.inl ⟨by decide,by decide⟩⟩⟩))
  have HNN:=aA hN
  have HQ:=aA hq
  clear hq h hN
  go_wp2
  refine bodyPost_ret (v:=.tuple #[.agg #[.slice AT mT cT,.slice AN mN cN,.slice AR G.rs.length cR,.int .i64 G.st],.complex .f64 0 0,.int .i64 0]) (by simp[results,Tryz.results15,go_sem,g0,g1,g2,g3]) rfl ?_
  rw[HQ.out]
  refine⟨⟨_,rfl,B,N,R,cs,_,_,_,Ms,Mt,ml,tl,rfl,HGR.out _ _ _ _,by simpa using HNN.out⟩,?_⟩
  exact aL (aL (aL (aL HB4.out _ (Nat.le_refl _)) _ (Nat.le_refl _)) _ (Nat.le_refl _)) _ (Nat.le_refl _)
 ·rw[hq]at hans
  obtain⟨her,rfl⟩:=hans
  have HER:=aA her
  have HQ:=aA hq
  clear hq her
  have HXX:Hid (∀w3 X Y,X=rfX L y→Y=rfY L y→zaK L w3 (.bad y er) (.returned (.tuple #[.agg #[.slice none 0 0,.slice none 0 0,.slice none 0 0,.int .i64 0],.complex .f64 X Y,.int .i64 er]))):=aA (fun _ X Y h1 h2=>by subst h1 h2;exact⟨HER.out,rfl⟩)
  obtain⟨X,hX⟩:∃X,X=rfX L y:=⟨_,rfl⟩
  obtain⟨Y,hY⟩:∃Y,Y=rfY L y:=⟨_,rfl⟩
  rw[←hX,←hY]
  have HXY:=aA (And.intro hX hY)
  clear hX hY
  go_wp2
  refine bodyPost_ret (v:=.tuple #[.agg #[.slice none 0 0,.slice none 0 0,.slice none 0 0,.int .i64 0],.complex .f64 X Y,.int .i64 er]) (by simp[results,Tryz.results15,go_sem,g0,g1,g2,g3]) rfl ?_
  rw[HQ.out]
  refine⟨HXX.out _ X Y HXY.out.1 HXY.out.2,?_⟩
  exact aL (aL (aL (aL HB4.out _ (Nat.le_refl _)) _ (Nat.le_refl _)) _ (Nat.le_refl _)) _ (Nat.le_refl _)
theorem zfA (A:Option Addr) (c:Nat) (L:List Int) (w:World) (hr:RdB w w.heap.size A L) (hl:K.Bytes L) (hc:L.length≤c) (hn:L.length≤4000) (hm:ML w) :
  Calls Tryz.prog 15 #[.slice A L.length c] w fun e w'=>zdQ L w' e∧Below w.heap.size w w':=by
 have hP:=fun(w1:World) (h1:Below w.heap.size w w1)=>zhF A c L w1 (hr.up h1) hl hc hn (hm.up h1)
 unfold zdQ rd
 rcases ht:zdV L with xs|⟨o,d⟩
 ·have hri:=zbo L hl xs ht
  have hcx:=hri.count
  simp only
  rw[ht]at hP
  rcases hs:Y.source xs with⟨s,r⟩|p
  ·have hin:=Y.source_in hs hri.2
   have hlen:=ziP hin
   have hd:=hin.d
   have hp:=hin.p
   refine(ziW A c L.length L s.1 s.2 w (fun w1 h1=>(hP w1 h1).mono fun e w' h=>?_) (zce hri hs) (by omega) (by omega) (fun d h=>by have:=hlen.1 d h;omega) (fun p h=>by have:=hlen.2 p h;omega))
   unfold zaJ at h
   simp only at h
   rw[hs]at h
   obtain⟨hb,dv,pv,he,q1,q2⟩:=h
   exact⟨dv,pv,he,q1,q2,hb⟩
  ·rcases p with _|t
   ·refine(zbC A c L.length w 4 (by decide) (Fl.fl (Pl.pos L).1) (Fl.fl (Pl.pos L).2) (fun w1 h1=>(hP w1 h1).mono fun e w' h=>?_)).mono fun e w' h=>⟨⟨_,_,4,by decide,h.1⟩,h.2⟩
    unfold zaJ at h
    simp only at h
    rw[hs]at h
    exact⟨h.2,h.1⟩
   ·refine(zbC A c L.length w 3 (by decide) (Fl.fl (Pl.pos (L.take t.o)).1) (Fl.fl (Pl.pos (L.take t.o)).2) (fun w1 h1=>(hP w1 h1).mono fun e w' h=>?_)).mono fun e w' h=>⟨⟨_,_,3,by decide,h.1⟩,h.2⟩
    unfold zaJ at h
    simp only at h
    rw[hs]at h
    exact⟨h.2,h.1⟩
 ·simp only
  rw[ht]at hP
  refine(zbC A c L.length w d (zeN L o d ht) (Fl.fl (Pl.pos (L.take o)).1) (Fl.fl (Pl.pos (L.take o)).2) (fun w1 h1=>(hP w1 h1).mono fun e w' h=>?_)).mono fun e w' h=>⟨⟨_,_,d,zeN L o d ht,h.1⟩,h.2⟩
  unfold zaJ at h
  exact⟨h.2,h.1⟩
structure Sr9 (L:List Int) (xs:List Tok) (ds:List Y.Dcl) (ps:List Y.Prd) (G:Gm.Gr):Prop where
 b:K.Bytes L
 n:L.length≤2000
 t:zdV L=.ok xs
 s:∃m t9 m2,Y.decls (xs.length+1) [] xs=.ok ds m∧Y.take [9] m=.ok t9 m2∧Y.group [] m2=.ok ps []
 z:Ez ds ps
 g:Gm.build ds ps=.ok G
theorem zkZ (A:Option Addr) (c:Nat) (L:List Int) (xs:List Tok) (ds:List Y.Dcl) (ps:List Y.Prd) (G:Gm.Gr) (w:World) (hr:RdB w w.heap.size A L) (hc:L.length≤c) (hs:Sr9 L xs ds ps G) :
  Calls Tryz.prog 32 #[.slice A L.length c] w fun e w'=>∃dv pv,e=.returned (.tuple #[.agg #[dv,pv],.complex .f64 0 0,.int .i64 0])∧bI L w' w.heap.size dv ds∧bG L w' w.heap.size pv ps∧Below w.heap.size w w':=by
 have SC:=fun a w m X Y=>show(store a (.complex .f64 X Y) m).run Tryz.prog w=stored Tryz.prog w a (.complex .f64 X Y) m from run_store _ w a _ m rfl
 have HT:=aA (fun(w1:World) (h1:Below w.heap.size w w1)=>zhm A c L xs w1 (hr.up h1) hs.b hc hs.n hs.t)
 have HB0:=aA (fun o=>((Below.refl w.heap.size w).alloc (Nat.le_refl _) o))
 obtain⟨m,t9,m2,s1,s2,s3⟩:=hs.s
 have hxs:xs.length≤4000:=by have:=(zbo L hs.b xs hs.t).count;have:=hs.n;omega
 have HOF:=aA (fun(w1:World) (A':Option Addr) (c':Nat) (h1:RdT L w1 w1.heap.size A' xs) (h2:xs.length≤c')=>of8 L A' c' (Fl.fl (Pl.pos L).1) (Fl.fl (Pl.pos L).2) xs ds ps m m2 t9 w1 h1 h2 hxs s1 hs.z.k s2 s3)
 clear hr hc hs s1 s2 s3
 go_enter Tryz.func32,Tryz.ntmps32
 go_wp2_with fail
 refine(HT.out _ (HB0.out _)).mono ?_;rintro _ w2 ⟨v,rfl,ho,hb⟩
 obtain⟨A',c',rfl,hxc,_,hrd⟩:=ho.rd
 have h2:w2.heap[w.heap.size]?=some (.cells #[.slice none 0 0,.slice none 0 0] 60 (0,0)):=(hb.block w.heap.size (by simp)).trans (heap_alloc_new w _)
 have HB2:=aA ((HB0.out (.cells #[.slice none 0 0,.slice none 0 0] 60)).trans (hb.mono (HB0.out _).size))
 have HO2:=aA (HOF.out w2 A' c' hrd hxc)
 clear ho hb HT HB0 HOF hrd hxc
 go_wp2_with fail
 refine HO2.out.mono ?_;rintro _ w3 ⟨dv,pv,rfl,hod,hop,hb3⟩
 have h3:=(hb3.block w.heap.size (Array.getElem?_eq_some_iff.1 h2).1).trans h2
 have c0:=cell_of_row w3 _ 0 _ _ _ h3
 have c1:=cell_of_row w3 _ 1 _ _ _ h3
 have f0:=frozen_of_row w3 _ 0 _ _ h3
 have f1:=frozen_of_row w3 _ 1 _ _ h3
 have HB3:=aA (HB2.out.trans (hb3.mono HB2.out.size))
 have HX:=aA (zac h3 (by decide))
 obtain⟨DA,DC,rfl,_,_⟩:=hod.form
 obtain⟨PA',PC,rfl,_,_⟩:=hop.form
 have HWD:Hid (bI L ((w3.setCell ⟨w.heap.size,0,none⟩ (.slice DA ds.length DC)).setCell ⟨w.heap.size,1,none⟩ (.slice PA' ps.length PC)) w.heap.size (.slice DA ds.length DC) ds):=aA (by
  obtain⟨zs,hz⟩:=hod.own
  exact(hod.less HB2.out.size).grown (aD (aD (World.grownBy.refl _ _) _ _) _ _) ⟨HX.out,.inr (zbl hz h3 (by decide))⟩)
 have HWP:Hid (bG L ((w3.setCell ⟨w.heap.size,0,none⟩ (.slice DA ds.length DC)).setCell ⟨w.heap.size,1,none⟩ (.slice PA' ps.length PC)) w.heap.size (.slice PA' ps.length PC) ps):=aA (by
  obtain⟨zs,hz⟩:=hop.own
  exact(hop.less HB2.out.size).grown (aD (aD (World.grownBy.refl _ _) _ _) _ _) ⟨HX.out,.inr (zbl hz h3 (by decide))⟩)
 clear hod hop hb3 HO2 h2 h3
 go_wp2
 refine bodyPost_ret (v:=.tuple #[.agg #[.slice DA ds.length DC,.slice PA' ps.length PC],.complex .f64 0 0,.int .i64 0]) (by simp[results,Tryz.results32,go_sem,c0,c1]) rfl ?_
 exact⟨_,_,rfl,HWD.out,HWP.out,aL (aL HB3.out _ (Nat.le_refl _)) _ (Nat.le_refl _)⟩
theorem zlc (A:Option Addr) (c:Nat) (L:List Int) (xs:List Tok) (ds:List Y.Dcl) (ps:List Y.Prd) (G:Gm.Gr) (w:World) (hr:RdB w w.heap.size A L) (hc:L.length≤c) (hs:Sr9 L xs ds ps G) :
  Calls Tryz.prog 16 #[.slice A L.length c] w fun e w'=>(∃g,e=.returned (.tuple #[g,.complex .f64 0 0,.int .i64 0])∧bC w' w'.heap.size g G∧Gm.Fit G)∧Below w.heap.size w w':=by
 have SC:=fun a w m X Y=>show(store a (.complex .f64 X Y) m).run Tryz.prog w=stored Tryz.prog w a (.complex .f64 X Y) m from run_store _ w a _ m rfl
 have hb1:Below w.heap.size w (w.alloc (.cells grC 26)):=(Below.refl w.heap.size w).alloc (Nat.le_refl _) _
 have HP:=aA (zkZ A c L xs ds ps G _ (hr.up hb1) hc hs)
 have HB1:=aA hb1
 have HG1:=aA (heap_alloc_new w (.cells grC 26))
 have HBA:=aA (fun(x:World) (A1 A2:Option Addr) (c1 c2:Nat) (h1:ziE L x x.heap.size A1 ds) (h2:zgW L x x.heap.size A2 ps)=>zlm L ds ps A1 A2 c1 c2 G x h1 h2 hs.z hs.g)
 unfold grC at HP HB1
 clear hr hc hs hb1
 go_enter Tryz.func16,Tryz.ntmps16
 go_wp2_with fail
 refine HP.out.mono ?_;rintro _ w2 ⟨dv,pv,rfl,hod,hop,hb2⟩
 obtain⟨A1,c1,rfl,hrd⟩:=zeB hod
 obtain⟨A2,c2,rfl,hrp⟩:=zej hop
 have hgb:=(hb2.block w.heap.size (by simp)).trans HG1.out
 have HGB:=aA hgb
 have HB2:=aA (HB1.out.trans (hb2.mono HB1.out.size))
 have hgz:=(Array.getElem?_eq_some_iff.1 hgb).1
 obtain⟨w3,hw3⟩:∃x,x=w2.alloc (.cells #[.slice A1 ds.length c1,.slice A2 ps.length c2] 60):=⟨_,rfl⟩
 have HB3:Hid (Below w.heap.size w w3):=aA (by rw[hw3];exact HB2.out.alloc HB2.out.size _)
 have hb23:Below w2.heap.size w2 w3:=by rw[hw3];exact(Below.refl _ _).alloc (Nat.le_refl _) _
 have HG3:Hid (w3.heap[w.heap.size]?=some (.cells grC 26 (0,0))):=aA ((hb23.block _ hgz).trans hgb)
 have hs3:w2.heap.size≤w3.heap.size:=hb23.size
 have HC:=aA (HBA.out w3 A1 A2 c1 c2 (fun hn=>by
   obtain⟨g,o,e,h1,h2⟩:=(hrd.keep hb23) hn
   refine⟨g,o,e,by omega,fun i hi=>?_⟩
   obtain⟨k1,A',c',k2,k3⟩:=h2 i hi
   exact⟨k1,A',c',k2,fun hn=>by obtain⟨g,o,e,q1,q2⟩:=k3 hn;exact⟨g,o,e,by omega,q2⟩⟩) (fun hn=>by
   obtain⟨g,o,e,h1,h2⟩:=(hrp.keep hb23) hn
   refine⟨g,o,e,by omega,fun i hi=>?_⟩
   obtain⟨k1,k2,⟨A',c',k3,k4⟩,k5⟩:=h2 i hi
   exact⟨k1,k2,⟨A',c',k3,fun hn=>by obtain⟨g,o,e,q1,q2⟩:=k4 hn;exact⟨g,o,e,by omega,q2⟩⟩,k5⟩))
 rw[hw3]at HC HB3 HG3
 clear hb2 hgb hod hop hrd hrp hw3 hb23 hs3 HBA
 go_wp2_with fail
 refine HC.out.mono ?_;rintro _ w4 ⟨⟨g,rfl,hgw,hfit⟩,hb4⟩
 have hgb:=(hb4.block w.heap.size (by simp;omega)).trans HG3.out
 have g0:w4.cell? ⟨w.heap.size,0,none⟩=some (.slice none 0 0):=cell_of_row w4 _ 0 _ _ _ hgb
 have g1:w4.cell? ⟨w.heap.size,1,none⟩=some (.slice none 0 0):=cell_of_row w4 _ 1 _ _ _ hgb
 have g2:w4.cell? ⟨w.heap.size,2,none⟩=some (.slice none 0 0):=cell_of_row w4 _ 2 _ _ _ hgb
 have g3:w4.cell? ⟨w.heap.size,3,none⟩=some (.int .i64 0):=cell_of_row w4 _ 3 _ _ _ hgb
 have f0:=frozen_of_row w4 _ 0 _ _ hgb
 have f1:=frozen_of_row w4 _ 1 _ _ hgb
 have f2:=frozen_of_row w4 _ 2 _ _ hgb
 have f3:=frozen_of_row w4 _ 3 _ _ hgb
 have hgz4:=(Array.getElem?_eq_some_iff.1 hgb).1
 have HB4:=aA (HB3.out.trans (hb4.mono HB3.out.size))
 obtain⟨B,N,R,cs,vT,vN,vR,rfl,h,hN⟩:=hgw
 obtain⟨⟨AT,cT,rfl⟩,⟨AN,cN,rfl⟩,⟨AR,cR,rfl⟩⟩:=zai h
 have HGR:=aA (fun u0 u1 u2 u3=>(h.more hN).grown (aD (aD (aD (aD (World.grownBy.refl w4 (some w.heap.size)) 0 u0) 1 u1) 2 u2) 3 u3) (⟨fun g e=>by injection e with e;subst e;exact⟨_,_,hgb,by decide,by decide,by decide,.inl ⟨by decide,by decide⟩⟩⟩))
 have HFI:=aA hfit
 clear hb4 hgb h hN hfit
 go_wp2
 refine bodyPost_ret (v:=.tuple #[.agg #[.slice AT G.ts.length cT,.slice AN G.ns.length cN,.slice AR G.rs.length cR,.int .i64 G.st],.complex .f64 0 0,.int .i64 0]) (by simp[results,Tryz.results16,go_sem,g0,g1,g2,g3]) rfl ?_
 exact⟨⟨_,rfl,(HGR.out _ _ _ _).rd (by simp) G.st,HFI.out⟩,aL (aL (aL (aL HB4.out _ (Nat.le_refl _)) _ (Nat.le_refl _)) _ (Nat.le_refl _)) _ (Nat.le_refl _)⟩
def txB (s:List Int):Bool:=(s.all fun z=>decide (0≤z)&&decide (z<256))&&decide (s.length≤100)
def zls (x:Tok):Bool:=txB x.t&&Gm.named x.t && !(x.t==[101,114,114,111,114])
def dcB (d:Y.Dcl):Bool:=(d.k==4||d.k==5)&&(d.ns.all fun x=>txB x.t&&Gm.named x.t)&&decide (d.ns.length≤1000)
def pdB (p:Y.Prd):Bool:=txB p.l.t&&T.isName p.l.t&&(p.r.all zls)&&(match p.p with|none=>true|some x=>zls x)&&decide (p.r.length≤1000)
def ezB (ds:List Y.Dcl) (ps:List Y.Prd):Bool:=ds.all dcB&&ps.all pdB&&decide (ds.length≤1000)&&decide (ps.length≤1000)&&decide (0<ps.length)
theorem zg0 {s:List Int} (h:txB s=true):K.Tx s:=by
 unfold txB at h
 rw[Bool.and_eq_true,decide_eq_true_eq]at h
 exact⟨aO _ h.1,by omega⟩
theorem zhx {x:Tok} (h:zls x=true):zlM x:=by
 unfold zls at h
 simp only[Bool.and_eq_true]at h
 exact⟨zg0 h.1.1,h.1.2,by simpa using h.2⟩
theorem zle {ds:List Y.Dcl} {ps:List Y.Prd} (h:ezB ds ps=true):Ez ds ps:=by
 unfold ezB at h
 simp only[Bool.and_eq_true,decide_eq_true_eq,List.all_eq_true]at h
 obtain⟨⟨⟨⟨h1,h2⟩,h3⟩,h4⟩,h5⟩:=h
 refine⟨fun d hd=>?_,fun d hd=>?_,fun p hp=>?_,fun p hp=>?_,h3,h4,h5⟩
 ·have:=h1 d hd
  unfold dcB at this
  simp only[Bool.and_eq_true,Bool.or_eq_true,beq_iff_eq]at this
  exact this.1.1
 ·have:=h1 d hd
  unfold dcB at this
  simp only[Bool.and_eq_true,List.all_eq_true,decide_eq_true_eq]at this
  exact⟨fun x hx=>⟨zg0 (this.1.2 x hx).1,(this.1.2 x hx).2⟩,by omega⟩
 ·have:=h2 p hp
  unfold pdB at this
  simp only[Bool.and_eq_true]at this
  exact⟨zg0 this.1.1.1.1,this.1.1.1.2⟩
 ·have:=h2 p hp
  unfold pdB at this
  simp only[Bool.and_eq_true,List.all_eq_true,decide_eq_true_eq]at this
  refine⟨fun x hx=>zhx (this.1.1.2 x hx),fun x hx=>?_,this.2⟩
  have h6:=this.1.2
  rw[hx]at h6
  exact zhx h6
def gr9 (L:List Int):Option Gm.Gr :=
 match zdV L with
 | .ok xs=>match Y.decls (xs.length+1) [] xs with
  | .ok ds m=>match Y.take [9] m with
   | .ok _ m2=>match Y.group [] m2 with
    | .ok ps []=>match ezB ds ps,Gm.build ds ps with
     | true,.ok G=>some G
     | _,_=>none
    | _=>none
   | _=>none
  | _=>none
 | _=>none
theorem zld {L:List Int} {G:Gm.Gr} (hb:(L.all fun z=>decide (0≤z)&&decide (z<256))=true) (hn:L.length≤2000) (h:gr9 L=some G):∃xs ds ps,Sr9 L xs ds ps G:=by
 unfold gr9 at h
 split at h
 ·rename_i xs h1
  split at h
  ·rename_i ds m h2
   split at h
   ·rename_i t9 m2 h3
    split at h
    ·rename_i ps h4
     split at h
     ·rename_i h5 h6
      injection h with h
      subst h
      exact⟨xs,ds,ps,aO _ hb,hn,h1,⟨m,t9,m2,h2,h3,h4⟩,zle h5,h6⟩
     ·cases h
    ·cases h
   ·cases h
  ·cases h
 ·cases h
theorem zcy (L:List Int) (G:Gm.Gr) (hb:(L.all fun z=>decide (0≤z)&&decide (z<256))=true) (hl:L.length≤2000) (hg:gr9 L=some G) (w:World) (n:Nat) (hw:n=w.heap.size) :
  Calls Tryz.prog 16 #[.slice (some ⟨n,0,none⟩) L.length L.length] (w.alloc (zaY L)) fun e w'=>(∃g,e=.returned (.tuple #[g,.complex .f64 0 0,.int .i64 0])∧bC w' w'.heap.size g G∧Gm.Fit G)∧Below w.heap.size w w':=by
 subst hw
 obtain⟨xs,ds,ps,hs⟩:=zld hb hl hg
 obtain⟨r1,r2⟩:=zlD w L
 exact(zlc _ L.length L xs ds ps G _ r1 (Nat.le_refl _) hs).mono fun e w' h=>⟨h.1,r2.trans (h.2.mono r2.size)⟩
theorem zje (w:World) (m:Nat) (ts:List Gm.Tm):OwnLv (w.alloc (.cells (madeCells #[.slice none 0 0] m) 23)) (w.heap.size+1) w.heap.size (List.replicate m (.slice none 0 0)) (Sh.lvls ts m 0):=by
 have e:madeCells #[Value.slice none 0 0] m=(List.replicate m (Value.slice none 0 0)).toArray:=by
  apply Array.ext'
  rw[toList_madeCells_one]
 refine⟨by rw[Sh.lvls_len,List.length_replicate],by rw[heap_alloc_new,e],fun i h h'=>?_,fun i j hi hj _ g hg=>?_⟩
 ·rw[List.getElem_replicate]
  have e2:(Sh.lvls ts m 0)[i]=[]:=by simp[Sh.lvls_start]
  rw[e2]
  exact bD.nil _ _
 ·rw[List.getElem_replicate]at hg
  cases hg
theorem zgv (A:Option Addr) (c B:Nat) (ts:List Gm.Tm) (w:World) (hr:zgS w B A ts) (hB:B≤w.heap.size) (hl:ts.length≤1000) (hlv:∀t∈ts,0≤t.lv∧t.lv≤1000) :
  Calls Tryz.prog 44 #[.slice A ts.length c] w fun e w'=>∃v,e=.returned v∧bH w' w.heap.size v (Sh.levels ts)∧Below w.heap.size w w':=by
 have HR:=aA hr
 have HLV:=aA hlv
 have htn:0≤Sh.top ts∧Sh.top ts≤1000:=by
  refine⟨Sh.top_nn ts fun t ht=>(hlv t ht).1,?_⟩
  rcases Sh.top_has ts with e|⟨t,ht,e⟩
  ·omega
  ·rw[←e];exact(hlv t ht).2
 obtain⟨m,hm⟩:∃m:Nat,Sh.top ts=(m:Int):=⟨(Sh.top ts).toNat,by omega⟩
 have hm1:m≤1000:=by omega
 have HM:=aA hm
 have hmk:=fun w=>run_make_row' (P:=Tryz.prog) 48 23 (.slice none 0 0) 24 Tryz.underlying48 zh9 rfl .i64 .i64 m (by omega) (by omega) w
 clear hr hlv htn hm
 go_enter Tryz.func44,Tryz.ntmps44
 go_wp2
 go_loopw [3,12] (fun vg vi wr=>∃(k:Nat),k≤ts.length∧vi=.int .i64 k∧vg=.int .i64 (Sh.top (ts.take k))∧Below w.heap.size w wr) (fun _ vi _=>ts.length-(intOf vi).toNat)
 case atStart=>exact⟨0,Nat.zero_le _,rfl,rfl,Below.refl _ _⟩
 case round =>
  obtain⟨k,hk,rfl,rfl,hb⟩:=hrel
  have HB:=aA hb
  have HS:=aA hb.size
  by_cases hlt:k<ts.length
  ·obtain⟨g,o,rfl,hgB,hc⟩:=HR.out (by omega)
   have hgw:g<w.heap.size:=by omega
   have k0:=(hb.cell (p:=⟨g,o+k*3,none⟩) hgw).trans (hc k hlt).1
   have k1:=(hb.cell (p:=⟨g,o+k*3+1,none⟩) hgw).trans (hc k hlt).2.1
   have k2:=(hb.cell (p:=⟨g,o+k*3+2,none⟩) hgw).trans (hc k hlt).2.2
   have hgs:g<wr.heap.size:=by have:=hb.size;omega
   have HN:Hid (Sh.top (ts.take (k+1))=max (Sh.top (ts.take k)) ts[k].lv):=aA (by rw[Sh.top_take k hlt];split <;> omega)
   clear hc hb
   generalize ts[k].nm=nm at *
   generalize ts[k].lv=lv at *
   generalize ts[k].wy=wy at *
   generalize Sh.top (ts.take k)=tp at *
   go_wp2
   go_roundw
   case rel=>exact⟨k+1,by omega,by go_num,by rw[HN.out],HB.out.alloc HS.out _⟩
   case measure=>simp[intOf];omega
  ·obtain rfl:k=ts.length:=by omega
   have HT:Hid (Sh.top (ts.take ts.length)=(m:Int)):=aA (by rw[List.take_length];exact HM.out)
   rw[HT.out]
   generalize wr=w1 at *
   have hb1:=hb.alloc hb.size (.cells (madeCells #[.slice none 0 0] m) 23)
   have HB1:=aA hb1
   have hO:w.heap.size≤w1.heap.size:=hb.size
   have HV0:=aA (zje w1 m ts)
   clear hb hb1
   go_wp2
   go_loopw [25] (fun vi wt=>∃(k:Nat) (vals:List Value),k≤ts.length∧vi=.int .i64 k∧OwnLv wt (w1.heap.size+1) w1.heap.size vals (Sh.lvls ts m k)∧Below w.heap.size w wt) (fun vi _=>ts.length-(intOf vi).toNat)
   case atStart=>exact⟨0,_,Nat.zero_le _,rfl,HV0.out,HB1.out⟩
   case round =>
    obtain⟨k,vals,hk,rfl,hv,hb⟩:=hrel
    have HV:=aA hv
    have HB:=aA hb
    have HS:=aA hb.size
    by_cases hlt:k<ts.length
    ·obtain⟨g,o,rfl,hgB,hc⟩:=HR.out (by omega)
     have hgw:g<w.heap.size:=by omega
     have k0:=(hb.cell (p:=⟨g,o+k*3,none⟩) hgw).trans (hc k hlt).1
     have k1:=(hb.cell (p:=⟨g,o+k*3+1,none⟩) hgw).trans (hc k hlt).2.1
     have k2:=(hb.cell (p:=⟨g,o+k*3+2,none⟩) hgw).trans (hc k hlt).2.2
     have hgs:g<wr.heap.size:=by have:=hb.size;omega
     have hlv0:=HLV.out _ (List.getElem_mem hlt)
     have htop:ts[k].lv≤(m:Int):=by have:=Sh.top_ge ts _ (List.getElem_mem hlt);rw[HM.out]at this;exact this
     by_cases hz:ts[k].lv=0
     ·have HN:=aA (Sh.lvls_none (m:=m) hlt hz)
      clear hc hb hv
      rw[hz]at k1
      generalize ts[k].nm=nm at *
      generalize ts[k].wy=wy at *
      clear hz hlv0 htop
      go_wp2
      go_roundw
      case rel=>exact⟨k+1,vals,by omega,by go_num,by rw[HN.out];exact HV.out.below ((Below.refl _ _).alloc (Nat.le_refl _) _),HB.out.alloc HS.out _⟩
      case measure=>simp[intOf];omega
     ·obtain⟨i,hi⟩:∃i:Nat,ts[k].lv=((i+1:Nat):Int):=⟨(ts[k].lv-1).toNat,by omega⟩
      have hil:i<vals.length:=by rw[hv.n,Sh.lvls_len];omega
      have hil2:i<(Sh.lvls ts m k).length:=by rw[Sh.lvls_len];omega
      have HN:=aA (Sh.lvls_some (m:=m) hlt hi)
      have HOI:=aA (hv.o i hil hil2)
      rw[Sh.lvls_at]at HOI
      have hcell:=hv.cell i hil
      obtain⟨Ai,ci,hAi,_,_⟩:=HOI.out.form
      rw[hAi]at hcell HOI
      rw[hi]at k1
      clear hc hb hv
      generalize ts[k].nm=nm at *
      generalize ts[k].wy=wy at *
      clear hz hlv0 htop
      have hi0:(0:Int)≤(i:Int):=by omega
      have him:(i:Int)<(m:Int):=by have:=HV.out.n;rw[Sh.lvls_len]at this;omega
      have hOl:=HV.out.lt
      have hfr:=HV.out.frozen i
      have hne:((i:Int)+1==0)=false:=by simp;omega
      by_cases hem:Sh.level (ts.take k) ((i+1:Nat):Int)=[]
      ·rw[hem]at HOI hcell hAi
       go_wp2_with fail
       refine(zj1 wy _).mono ?_;rintro _ _ ⟨rfl,rfl⟩
       go_wp2_with fail
       have hw5:∃w5:World,w5=((wr.alloc (.cells #[.string (K.str nm),.int .i64 ((i:Int)+1),.int .i64 wy] 51)).alloc (.cells #[.string (K.str (Sh.wayW wy))] 9)).setCell ⟨w1.heap.size,i,none⟩ (.slice (some ⟨wr.heap.size+1,0,none⟩) 1 1)∧((wr.setCell ⟨w1.heap.size,i,none⟩ (.slice (some ⟨wr.heap.size+1,0,none⟩) 1 1)).alloc (.cells #[.string (K.str nm),.int .i64 ((i:Int)+1),.int .i64 wy] 51)).alloc (.cells #[.string (K.str (Sh.wayW wy))] 9)=w5:=⟨_,rfl,by rw[World.setCell_alloc_past _ _ _ _ (by simp;omega),World.setCell_alloc_past _ _ _ _ hOl]⟩
       obtain⟨w5,hw5,hw6⟩:=hw5
       have HP:Hid (OwnLv w5 (w1.heap.size+1) w1.heap.size (vals.set i (.slice (some ⟨wr.heap.size+1,0,none⟩) 1 1)) ((Sh.lvls ts m k).set i [Sh.wayW wy])):=aA (by rw[hw5];exact((HV.out.below ((Below.refl _ _).alloc (Nat.le_refl _) (.cells #[.string (K.str nm),.int .i64 ((i:Int)+1),.int .i64 wy] 51))).put (by omega) i hil (aC (World.grownBy.refl _ _) (.cells #[.string (K.str (Sh.wayW wy))] 9)) _ [Sh.wayW wy] (zhI (wr.alloc (.cells #[.string (K.str nm),.int .i64 ((i:Int)+1),.int .i64 wy] 51)) (w1.heap.size+1) (wr.heap.size+1) 9 1 1 (bJ [Sh.wayW wy]) (by simp) (by simp;omega) rfl (by unfold maxLen;omega)) (fun g e=>.inr (by injection e with e;have e:wr.heap.size+1=g:=e;simp;omega))))
       have HBP:Hid (Below w.heap.size w w5):=aA (by rw[hw5];exact((HB.out.alloc HS.out (.cells #[.string (K.str nm),.int .i64 ((i:Int)+1),.int .i64 wy] 51)).alloc (by have:=HS.out;simp;omega) (.cells #[.string (K.str (Sh.wayW wy))] 9)).setCell (p:=⟨w1.heap.size,i,none⟩) hO (.slice (some ⟨wr.heap.size+1,0,none⟩) 1 1))
       have HT8:Hid (w5.heap[wr.heap.size]?=some (.cells #[.string (K.str nm),.int .i64 ((i:Int)+1),.int .i64 wy] 51 (0,0))):=aA (by rw[hw5,Below.heap_setCell _ _ _ _ (by simp only;omega)];exact(((Below.refl _ _).alloc (Nat.le_refl _) _).block _ (by simp)).trans (heap_alloc_new wr _))
       have HL5:Hid (Sh.lvls ts m (k+1)=((Sh.lvls ts m k).set i [Sh.wayW wy]).set i ([Sh.wayW wy]++[nm])):=aA (by rw[HN.out,hem,if_pos rfl,List.set_set])
       have hcell5:=HP.out.cell i (by rw[List.length_set];exact hil)
       rw[List.getElem_set_self]at hcell5
       have HOI5:Hid (bD w5 (w1.heap.size+1) (.slice (some ⟨wr.heap.size+1,0,none⟩) 1 1) [Sh.wayW wy]):=aA (by have:=HP.out.o i (by rw[List.length_set];exact hil) (by rw[List.length_set];exact hil2);rwa [List.getElem_set_self,List.getElem_set_self]at this)
       have hv5:(vals.set i (.slice (some ⟨wr.heap.size+1,0,none⟩) 1 1))[i]'(by rw[List.length_set];exact hil)=.slice (some ⟨wr.heap.size+1,0,none⟩) 1 1:=List.getElem_set_self _
       have hil5:i<(vals.set i (.slice (some ⟨wr.heap.size+1,0,none⟩) 1 1)).length:=by rw[List.length_set];exact hil
       rw[hw6]
       clear hw5 hw6 HV HB HS HOI hcell hfr
       have HVI:=aA hv5
       have HLN:Hid ([Sh.wayW wy].length≤1000000):=aA (by simp)
       have hsz5:=(Array.getElem?_eq_some_iff.1 HT8.out).1
       have hO5:=HP.out.lt
       clear hv5
       refine Calm.region_tree (fun x=>∃y:Calm.OnB wr.heap.size w5,x=y.1) (.two [0,1,2,3,4,6,7] 5 (.one [] 8 (.one [] 9 (.one [10] 11 (.fin [])))) 8 (.one [] 5 (.one [] 9 (.one [10] 11 (.fin []))))) (by kernel_rfl) (by kernel_rfl) (fun _ _ d _ _ h=>by cases d <;> exact h) ⟨⟨w5.drew,rfl⟩,rfl⟩ ?_
       simp only[Calm.wpT,Calm.wpSt,Calm.pickOps,List.getElem?_toArray,List.getElem?_cons_zero,List.getElem?_cons_succ]
       have D8:=fun y:Calm.OnB wr.heap.size w5=>(show y.1.cell? ⟨wr.heap.size,0,none⟩=some (.string (K.str nm)) by rw[cell_of_row y.1 _ 0 _ _ _ (y.2.trans HT8.out)];rfl)
       have HA5:=aA (aC (World.grownBy.refl w5 .none) (.cells #[.string (K.str nm)] 9))
       have HP6:Hid (OwnLv (w5.alloc (.cells #[.string (K.str nm)] 9)) (w1.heap.size+1) w1.heap.size (vals.set i (.slice (some ⟨wr.heap.size+1,0,none⟩) 1 1)) ((Sh.lvls ts m k).set i [Sh.wayW wy])):=aA (HP.out.below ((Below.refl _ _).alloc (Nat.le_refl _) _))
       have HO6:Hid (bD (w5.alloc (.cells #[.string (K.str nm)] 9)) (w1.heap.size+1) (.slice (some ⟨wr.heap.size+1,0,none⟩) 1 1) [Sh.wayW wy]):=aA (HOI5.out.alloc _)
       have HT6:Hid ((w5.alloc (.cells #[.string (K.str nm)] 9)).heap[wr.heap.size]?=w5.heap[wr.heap.size]?):=aA (((Below.refl _ w5).alloc (Nat.le_refl _) _).block _ hsz5)
       have HCE:=aA (aH w5 [.string (K.str nm)] 9 0)
       have HAW:=aA (aN HO6.out (HT6.out.trans HT8.out) (fun cur e=>by injection e with _ e;exact absurd e (by decide)))
       have HBa:Hid (Below w.heap.size w (w5.alloc (.cells #[.string (K.str nm)] 9))):=aA (HBP.out.alloc HBP.out.size _)
       repeat (go_big_quiet_step (fail))
       refine wpQuiet_nil ?_
       clear D8
       refine⟨?_,?_⟩
       ·intro KK hKK
        rw[if_pos (by rfl)]
        go_wp2_with fail
        refine hKK _ _ ⟨⟨w5.drew,rfl⟩,rfl⟩ (fun x=>∃y:Calm.OnB wr.heap.size w5,x=y.1) (fun _ h=>h) ⟨⟨w5.drew,rfl⟩,rfl⟩ ?_
        refine wpQuiet_nil ?_
        intro KK hKK
        try rw[if_pos (by rfl)]
        go_wp2_with fail
        refine hKK _ _ ⟨⟨(w5.alloc (.cells #[.string (K.str nm)] 9)).drew,HT6.out⟩,rfl⟩ (fun x=>∃y:Calm.OnB wr.heap.size w5,x=y.1) (fun _ h=>h) ⟨⟨(w5.alloc (.cells #[.string (K.str nm)] 9)).drew,HT6.out⟩,rfl⟩ ?_
        refine wpQuiet_nil ?_
        intro KK hKK
        try rw[if_pos (by rfl)]
        refine zbk (w:=(w5.alloc (.cells #[.string (K.str nm)] 9)).drew) (.tmp 53) (.tmp 56) _ rfl Tryz.underlying23 (w1.heap.size+1) (.slice (some ⟨wr.heap.size+1,0,none⟩) 1 1) [Sh.wayW wy] rfl HO6.out w5.heap.size 1 nm rfl HCE.out HLN.out (by simp;omega) ?_
        intro v7 w7 ho7 hg7' hl7
        have hg7:=(aE (w5.alloc (.cells #[.string (K.str nm)] 9)) _).trans hg7'
        have hT7:w7.heap[wr.heap.size]?=w5.heap[wr.heap.size]?:=(World.grownBy.block hg7 wr.heap.size (by simp;omega) (by rcases HAW.out with q|q;rw[q];simp;exact fun e=>q e.symm)).trans HT6.out
        have hP7:=HP6.out.put (by omega) i hil5 (by rw[HVI.out];exact hg7) v7 _ ho7 (fun g e=>by rw[HVI.out];rcases hl7 with q|q;exact .inl (q▸e);right;rw[q]at e;injection e with e;rw[←e];exact Nat.le_refl _)
        have hb7:Below w.heap.size w w7:=HBa.out.grown hg7 (by have:=HBP.out.size;simp;omega) (fun g e=>by have:=(aF HO6.out e).1;omega)
        have hk7:=(World.grownBy.block hg7 w1.heap.size (by have:=HP6.out.lt;exact this) (fun e=>(HO6.out.notRow (by omega)) e.symm)).trans HP6.out.b
        have hf7:w7.frozen? ⟨w1.heap.size,i,none⟩=false:=frozen_of_row w7 _ i _ _ hk7
        have hc7:w7.cell? ⟨w1.heap.size,i,none⟩=some (.slice (some ⟨wr.heap.size+1,0,none⟩) 1 1):=by rw[cell_of_row w7 _ i _ _ _ hk7,List.getElem?_toArray,List.getElem?_eq_getElem hil5,HVI.out]
        have hO7:w1.heap.size<w7.heap.size:=by have:=hg7.size;have:=HP6.out.lt;simp at *;omega
        obtain⟨A7,c7,hv7,_,_⟩:=ho7.form
        rw[show([Sh.wayW wy]++[nm]).length=2 by simp]at hv7
        subst hv7
        have HP7:=aA hP7
        have HB7:=aA (hb7.setCell (p:=⟨w1.heap.size,i,none⟩) hO (.slice A7 2 c7))
        have HT7:=aA hT7
        clear hk7 ho7 hg7 hg7' hl7 hT7 hP7 hb7
        go_wp2_with fail
        refine hKK _ _ ⟨⟨w7,HT7.out⟩,rfl⟩ (fun x=>∃y:Calm.OnB wr.heap.size w5,x=y.1) (fun _ h=>h) ⟨⟨w7,HT7.out⟩,rfl⟩ ?_
        repeat (go_big_quiet_step (fail))
        refine wpQuiet_nil ?_
        intro KK hKK
        try rw[if_pos (by rfl)]
        go_wp2_with fail
        have HME:=aA ((Below.heap_setCell w7 ⟨w1.heap.size,i,none⟩ (.slice A7 2 c7) wr.heap.size (by simp only;omega)).trans HT7.out)
        refine hKK _ _ ⟨⟨_,HME.out⟩,rfl⟩ (fun x=>∃y:Calm.OnB wr.heap.size w5,x=y.1) (fun _ h=>h) ⟨⟨_,HME.out⟩,rfl⟩ ?_
        refine wpQuiet_nil ?_
        go_wp2_with fail
        go_roundw
        case rel=>exact⟨k+1,_,by omega,by go_num,by rw[HL5.out];exact HP7.out,HB7.out⟩
        case measure=>simp[intOf];omega
       ·intro KK hKK
        rw[if_pos (by rfl)]
        go_wp2_with fail
        refine hKK _ _ ⟨⟨(w5.alloc (.cells #[.string (K.str nm)] 9)).drew,HT6.out⟩,rfl⟩ (fun x=>∃y:Calm.OnB wr.heap.size w5,x=y.1) (fun _ h=>h) ⟨⟨(w5.alloc (.cells #[.string (K.str nm)] 9)).drew,HT6.out⟩,rfl⟩ ?_
        refine wpQuiet_nil ?_
        intro KK hKK
        try rw[if_pos (by rfl)]
        go_wp2_with fail
        refine hKK _ _ ⟨⟨(w5.alloc (.cells #[.string (K.str nm)] 9)).drew,HT6.out⟩,rfl⟩ (fun x=>∃y:Calm.OnB wr.heap.size w5,x=y.1) (fun _ h=>h) ⟨⟨(w5.alloc (.cells #[.string (K.str nm)] 9)).drew,HT6.out⟩,rfl⟩ ?_
        refine wpQuiet_nil ?_
        intro KK hKK
        try rw[if_pos (by rfl)]
        refine zbk (w:=(w5.alloc (.cells #[.string (K.str nm)] 9)).drew) (.tmp 53) (.tmp 56) _ rfl Tryz.underlying23 (w1.heap.size+1) (.slice (some ⟨wr.heap.size+1,0,none⟩) 1 1) [Sh.wayW wy] rfl HO6.out w5.heap.size 1 nm rfl HCE.out HLN.out (by simp;omega) ?_
        intro v7 w7 ho7 hg7' hl7
        have hg7:=(aE (w5.alloc (.cells #[.string (K.str nm)] 9)) _).trans hg7'
        have hT7:w7.heap[wr.heap.size]?=w5.heap[wr.heap.size]?:=(World.grownBy.block hg7 wr.heap.size (by simp;omega) (by rcases HAW.out with q|q;rw[q];simp;exact fun e=>q e.symm)).trans HT6.out
        have hP7:=HP6.out.put (by omega) i hil5 (by rw[HVI.out];exact hg7) v7 _ ho7 (fun g e=>by rw[HVI.out];rcases hl7 with q|q;exact .inl (q▸e);right;rw[q]at e;injection e with e;rw[←e];exact Nat.le_refl _)
        have hb7:Below w.heap.size w w7:=HBa.out.grown hg7 (by have:=HBP.out.size;simp;omega) (fun g e=>by have:=(aF HO6.out e).1;omega)
        have hk7:=(World.grownBy.block hg7 w1.heap.size (by have:=HP6.out.lt;exact this) (fun e=>(HO6.out.notRow (by omega)) e.symm)).trans HP6.out.b
        have hf7:w7.frozen? ⟨w1.heap.size,i,none⟩=false:=frozen_of_row w7 _ i _ _ hk7
        have hc7:w7.cell? ⟨w1.heap.size,i,none⟩=some (.slice (some ⟨wr.heap.size+1,0,none⟩) 1 1):=by rw[cell_of_row w7 _ i _ _ _ hk7,List.getElem?_toArray,List.getElem?_eq_getElem hil5,HVI.out]
        have hO7:w1.heap.size<w7.heap.size:=by have:=hg7.size;have:=HP6.out.lt;simp at *;omega
        obtain⟨A7,c7,hv7,_,_⟩:=ho7.form
        rw[show([Sh.wayW wy]++[nm]).length=2 by simp]at hv7
        subst hv7
        have HP7:=aA hP7
        have HB7:=aA (hb7.setCell (p:=⟨w1.heap.size,i,none⟩) hO (.slice A7 2 c7))
        have HT7:=aA hT7
        clear hk7 ho7 hg7 hg7' hl7 hT7 hP7 hb7
        go_wp2_with fail
        refine hKK _ _ ⟨⟨w7,HT7.out⟩,rfl⟩ (fun x=>∃y:Calm.OnB wr.heap.size w5,x=y.1) (fun _ h=>h) ⟨⟨w7,HT7.out⟩,rfl⟩ ?_
        repeat (go_big_quiet_step (fail))
        refine wpQuiet_nil ?_
        intro KK hKK
        try rw[if_pos (by rfl)]
        go_wp2_with fail
        have HME:=aA ((Below.heap_setCell w7 ⟨w1.heap.size,i,none⟩ (.slice A7 2 c7) wr.heap.size (by simp only;omega)).trans HT7.out)
        refine hKK _ _ ⟨⟨_,HME.out⟩,rfl⟩ (fun x=>∃y:Calm.OnB wr.heap.size w5,x=y.1) (fun _ h=>h) ⟨⟨_,HME.out⟩,rfl⟩ ?_
        refine wpQuiet_nil ?_
        go_wp2_with fail
        go_roundw
        case rel=>exact⟨k+1,_,by omega,by go_num,by rw[HL5.out];exact HP7.out,HB7.out⟩
        case measure=>simp[intOf];omega
      ·skip
       have hne2:((((Sh.level (ts.take k) ((i+1:Nat):Int)).length:Nat):Int)==0)=false:=by
        have:(Sh.level (ts.take k) ((i+1:Nat):Int)).length≠0:=fun e=>hem (List.eq_nil_of_length_eq_zero e)
        exact beq_eq_false_iff_ne.2 (by omega)
       have HLN:Hid ((Sh.level (ts.take k) ((i+1:Nat):Int)).length≤1000000):=aA (by have:=Sh.level_len (ts.take k) ((i+1:Nat):Int);rw[List.length_take]at this;omega)
       have HL5:Hid (Sh.lvls ts m (k+1)=(Sh.lvls ts m k).set i (Sh.level (ts.take k) ((i+1:Nat):Int)++[nm])):=aA (by rw[HN.out,if_neg hem])
       have HVI:=aA hAi
       have hil5:=hil
       clear hem hAi HN
       generalize Sh.level (ts.take k) ((i+1:Nat):Int)=line at *
       go_wp2_with fail
       obtain⟨w5,hw5⟩:∃w5:World,w5=wr.alloc (.cells #[.string (K.str nm),.int .i64 ((i:Int)+1),.int .i64 wy] 51):=⟨_,rfl⟩
       have HP:Hid (OwnLv w5 (w1.heap.size+1) w1.heap.size vals (Sh.lvls ts m k)):=aA (by rw[hw5];exact HV.out.below ((Below.refl _ _).alloc (Nat.le_refl _) _))
       have HBP:Hid (Below w.heap.size w w5):=aA (by rw[hw5];exact HB.out.alloc HS.out _)
       have HT8:Hid (w5.heap[wr.heap.size]?=some (.cells #[.string (K.str nm),.int .i64 ((i:Int)+1),.int .i64 wy] 51 (0,0))):=aA (by rw[hw5];exact heap_alloc_new wr _)
       have hcell5:=HP.out.cell i hil
       rw[HVI.out]at hcell5
       have HOI5:Hid (bD w5 (w1.heap.size+1) (.slice Ai line.length ci) line):=aA (by rw[hw5];exact HOI.out.alloc _)
       have hsz5:=(Array.getElem?_eq_some_iff.1 HT8.out).1
       have hO5:=HP.out.lt
       rw[←hw5]
       clear hw5 HV HB HS HOI hcell hfr
       refine Calm.region_tree (fun x=>∃y:Calm.OnB wr.heap.size w5,x=y.1) (.two [0,1,2,3,4,6,7] 5 (.one [] 8 (.one [] 9 (.one [10] 11 (.fin [])))) 8 (.one [] 5 (.one [] 9 (.one [10] 11 (.fin []))))) (by kernel_rfl) (by kernel_rfl) (fun _ _ d _ _ h=>by cases d <;> exact h) ⟨⟨w5.drew,rfl⟩,rfl⟩ ?_
       simp only[Calm.wpT,Calm.wpSt,Calm.pickOps,List.getElem?_toArray,List.getElem?_cons_zero,List.getElem?_cons_succ]
       have D8:=fun y:Calm.OnB wr.heap.size w5=>(show y.1.cell? ⟨wr.heap.size,0,none⟩=some (.string (K.str nm)) by rw[cell_of_row y.1 _ 0 _ _ _ (y.2.trans HT8.out)];rfl)
       have HA5:=aA (aC (World.grownBy.refl w5 .none) (.cells #[.string (K.str nm)] 9))
       have HP6:Hid (OwnLv (w5.alloc (.cells #[.string (K.str nm)] 9)) (w1.heap.size+1) w1.heap.size vals (Sh.lvls ts m k)):=aA (HP.out.below ((Below.refl _ _).alloc (Nat.le_refl _) _))
       have HO6:Hid (bD (w5.alloc (.cells #[.string (K.str nm)] 9)) (w1.heap.size+1) (.slice Ai line.length ci) line):=aA (HOI5.out.alloc _)
       have HT6:Hid ((w5.alloc (.cells #[.string (K.str nm)] 9)).heap[wr.heap.size]?=w5.heap[wr.heap.size]?):=aA (((Below.refl _ w5).alloc (Nat.le_refl _) _).block _ hsz5)
       have HCE:=aA (aH w5 [.string (K.str nm)] 9 0)
       have HAW:=aA (aN HO6.out (HT6.out.trans HT8.out) (fun cur e=>by injection e with _ e;exact absurd e (by decide)))
       have HBa:Hid (Below w.heap.size w (w5.alloc (.cells #[.string (K.str nm)] 9))):=aA (HBP.out.alloc HBP.out.size _)
       repeat (go_big_quiet_step (fail))
       refine wpQuiet_nil ?_
       clear D8
       refine⟨?_,?_⟩
       ·intro KK hKK
        rw[if_pos (by rfl)]
        go_wp2_with fail
        refine hKK _ _ ⟨⟨w5.drew,rfl⟩,rfl⟩ (fun x=>∃y:Calm.OnB wr.heap.size w5,x=y.1) (fun _ h=>h) ⟨⟨w5.drew,rfl⟩,rfl⟩ ?_
        refine wpQuiet_nil ?_
        intro KK hKK
        try rw[if_pos (by rfl)]
        go_wp2_with fail
        refine hKK _ _ ⟨⟨(w5.alloc (.cells #[.string (K.str nm)] 9)).drew,HT6.out⟩,rfl⟩ (fun x=>∃y:Calm.OnB wr.heap.size w5,x=y.1) (fun _ h=>h) ⟨⟨(w5.alloc (.cells #[.string (K.str nm)] 9)).drew,HT6.out⟩,rfl⟩ ?_
        refine wpQuiet_nil ?_
        intro KK hKK
        try rw[if_pos (by rfl)]
        refine zbk (w:=(w5.alloc (.cells #[.string (K.str nm)] 9)).drew) (.tmp 53) (.tmp 56) _ rfl Tryz.underlying23 (w1.heap.size+1) (.slice Ai line.length ci) line rfl HO6.out w5.heap.size 1 nm rfl HCE.out HLN.out (by simp;omega) ?_
        intro v7 w7 ho7 hg7' hl7
        have hg7:=(aE (w5.alloc (.cells #[.string (K.str nm)] 9)) _).trans hg7'
        have hT7:w7.heap[wr.heap.size]?=w5.heap[wr.heap.size]?:=(World.grownBy.block hg7 wr.heap.size (by simp;omega) (by rcases HAW.out with q|q;rw[q];simp;exact fun e=>q e.symm)).trans HT6.out
        have hP7:=HP6.out.put (by omega) i hil5 (by rw[HVI.out];exact hg7) v7 _ ho7 (fun g e=>by rw[HVI.out];rcases hl7 with q|q;exact .inl (q▸e);right;rw[q]at e;injection e with e;rw[←e];exact Nat.le_refl _)
        have hb7:Below w.heap.size w w7:=HBa.out.grown hg7 (by have:=HBP.out.size;simp;omega) (fun g e=>by have:=(aF HO6.out e).1;omega)
        have hk7:=(World.grownBy.block hg7 w1.heap.size (by have:=HP6.out.lt;exact this) (fun e=>(HO6.out.notRow (by omega)) e.symm)).trans HP6.out.b
        have hf7:w7.frozen? ⟨w1.heap.size,i,none⟩=false:=frozen_of_row w7 _ i _ _ hk7
        have hc7:w7.cell? ⟨w1.heap.size,i,none⟩=some (.slice Ai line.length ci):=by rw[cell_of_row w7 _ i _ _ _ hk7,List.getElem?_toArray,List.getElem?_eq_getElem hil5,HVI.out]
        have hO7:w1.heap.size<w7.heap.size:=by have:=hg7.size;have:=HP6.out.lt;simp at *;omega
        obtain⟨A7,c7,hv7,_,_⟩:=ho7.form
        rw[show(line++[nm]).length=(line.length+1) by simp]at hv7
        subst hv7
        have HP7:=aA hP7
        have HB7:=aA (hb7.setCell (p:=⟨w1.heap.size,i,none⟩) hO (.slice A7 (line.length+1) c7))
        have HT7:=aA hT7
        clear hk7 ho7 hg7 hg7' hl7 hT7 hP7 hb7
        go_wp2_with fail
        refine hKK _ _ ⟨⟨w7,HT7.out⟩,rfl⟩ (fun x=>∃y:Calm.OnB wr.heap.size w5,x=y.1) (fun _ h=>h) ⟨⟨w7,HT7.out⟩,rfl⟩ ?_
        repeat (go_big_quiet_step (fail))
        refine wpQuiet_nil ?_
        intro KK hKK
        try rw[if_pos (by rfl)]
        go_wp2_with fail
        have HME:=aA ((Below.heap_setCell w7 ⟨w1.heap.size,i,none⟩ (.slice A7 (line.length+1) c7) wr.heap.size (by simp only;omega)).trans HT7.out)
        refine hKK _ _ ⟨⟨_,HME.out⟩,rfl⟩ (fun x=>∃y:Calm.OnB wr.heap.size w5,x=y.1) (fun _ h=>h) ⟨⟨_,HME.out⟩,rfl⟩ ?_
        refine wpQuiet_nil ?_
        go_wp2_with fail
        go_roundw
        case rel=>exact⟨k+1,_,by omega,by go_num,by rw[HL5.out];exact HP7.out,HB7.out⟩
        case measure=>simp[intOf];omega
       ·intro KK hKK
        rw[if_pos (by rfl)]
        go_wp2_with fail
        refine hKK _ _ ⟨⟨(w5.alloc (.cells #[.string (K.str nm)] 9)).drew,HT6.out⟩,rfl⟩ (fun x=>∃y:Calm.OnB wr.heap.size w5,x=y.1) (fun _ h=>h) ⟨⟨(w5.alloc (.cells #[.string (K.str nm)] 9)).drew,HT6.out⟩,rfl⟩ ?_
        refine wpQuiet_nil ?_
        intro KK hKK
        try rw[if_pos (by rfl)]
        go_wp2_with fail
        refine hKK _ _ ⟨⟨(w5.alloc (.cells #[.string (K.str nm)] 9)).drew,HT6.out⟩,rfl⟩ (fun x=>∃y:Calm.OnB wr.heap.size w5,x=y.1) (fun _ h=>h) ⟨⟨(w5.alloc (.cells #[.string (K.str nm)] 9)).drew,HT6.out⟩,rfl⟩ ?_
        refine wpQuiet_nil ?_
        intro KK hKK
        try rw[if_pos (by rfl)]
        refine zbk (w:=(w5.alloc (.cells #[.string (K.str nm)] 9)).drew) (.tmp 53) (.tmp 56) _ rfl Tryz.underlying23 (w1.heap.size+1) (.slice Ai line.length ci) line rfl HO6.out w5.heap.size 1 nm rfl HCE.out HLN.out (by simp;omega) ?_
        intro v7 w7 ho7 hg7' hl7
        have hg7:=(aE (w5.alloc (.cells #[.string (K.str nm)] 9)) _).trans hg7'
        have hT7:w7.heap[wr.heap.size]?=w5.heap[wr.heap.size]?:=(World.grownBy.block hg7 wr.heap.size (by simp;omega) (by rcases HAW.out with q|q;rw[q];simp;exact fun e=>q e.symm)).trans HT6.out
        have hP7:=HP6.out.put (by omega) i hil5 (by rw[HVI.out];exact hg7) v7 _ ho7 (fun g e=>by rw[HVI.out];rcases hl7 with q|q;exact .inl (q▸e);right;rw[q]at e;injection e with e;rw[←e];exact Nat.le_refl _)
        have hb7:Below w.heap.size w w7:=HBa.out.grown hg7 (by have:=HBP.out.size;simp;omega) (fun g e=>by have:=(aF HO6.out e).1;omega)
        have hk7:=(World.grownBy.block hg7 w1.heap.size (by have:=HP6.out.lt;exact this) (fun e=>(HO6.out.notRow (by omega)) e.symm)).trans HP6.out.b
        have hf7:w7.frozen? ⟨w1.heap.size,i,none⟩=false:=frozen_of_row w7 _ i _ _ hk7
        have hc7:w7.cell? ⟨w1.heap.size,i,none⟩=some (.slice Ai line.length ci):=by rw[cell_of_row w7 _ i _ _ _ hk7,List.getElem?_toArray,List.getElem?_eq_getElem hil5,HVI.out]
        have hO7:w1.heap.size<w7.heap.size:=by have:=hg7.size;have:=HP6.out.lt;simp at *;omega
        obtain⟨A7,c7,hv7,_,_⟩:=ho7.form
        rw[show(line++[nm]).length=(line.length+1) by simp]at hv7
        subst hv7
        have HP7:=aA hP7
        have HB7:=aA (hb7.setCell (p:=⟨w1.heap.size,i,none⟩) hO (.slice A7 (line.length+1) c7))
        have HT7:=aA hT7
        clear hk7 ho7 hg7 hg7' hl7 hT7 hP7 hb7
        go_wp2_with fail
        refine hKK _ _ ⟨⟨w7,HT7.out⟩,rfl⟩ (fun x=>∃y:Calm.OnB wr.heap.size w5,x=y.1) (fun _ h=>h) ⟨⟨w7,HT7.out⟩,rfl⟩ ?_
        repeat (go_big_quiet_step (fail))
        refine wpQuiet_nil ?_
        intro KK hKK
        try rw[if_pos (by rfl)]
        go_wp2_with fail
        have HME:=aA ((Below.heap_setCell w7 ⟨w1.heap.size,i,none⟩ (.slice A7 (line.length+1) c7) wr.heap.size (by simp only;omega)).trans HT7.out)
        refine hKK _ _ ⟨⟨_,HME.out⟩,rfl⟩ (fun x=>∃y:Calm.OnB wr.heap.size w5,x=y.1) (fun _ h=>h) ⟨⟨_,HME.out⟩,rfl⟩ ?_
        refine wpQuiet_nil ?_
        go_wp2_with fail
        go_roundw
        case rel=>exact⟨k+1,_,by omega,by go_num,by rw[HL5.out];exact HP7.out,HB7.out⟩
        case measure=>simp[intOf];omega
    ·obtain rfl:k=ts.length:=by omega
     have HO:=aA (HV.out.own (base':=w.heap.size) hO (by rw[Sh.lvls_len];unfold maxLen;omega))
     rw[Sh.lvls_len]at HO
     clear hb hv
     go_wp2
     go_ret
     refine⟨_,rfl,?_,HB.out⟩
     have e:=Sh.lvls_end ts
     rw[HM.out,show((m:Int)).toNat=m from rfl]at e
     rw[←e]
     exact HO.out
end Go.Proofs.YtkfelkpilaipnaaGreatDoor
