/- Part of the proofs over this program: LkVisit, SetR, FstFn, FstGrow, FstKnown, FstKnow2, FstOf, FirstQ, SliceI, LkTails. -/
import Derived.Test.YtjjbaehamplnaaaGreatHK
set_option linter.all false
namespace Go
def E4:=@List.all_eq_not_any_not
def Ea:=@List.length_replicate
def Er:=@List.replicate_zero
end Go
open Go.RowKit Go.Proofs.Tryz
set_option maxRecDepth 100000
set_option maxHeartbeats 40000000
namespace Go.Proofs.YtjjbaehamplnaaaGreat
variable {A:Option Go.Addr} {B D M d g k n:Nat} {G:Gm.Gr} {l r:List Int} {w w':Go.World} {z:Int}
theorem J6 {y:World} {MM:Lk.MP} (h:Mw.fw qG y M (Lk.gY MM)) (x:Int×Int) (hx:Gm.In x.1/\Gm.In x.2) :
  (Instr.lookup 172 (.map (some M)) (.agg #[.int .i64 x.1,.int .i64 x.2]) false).run prog y=.ok (.int .u32 (Lk.gN MM x:Int)) y:=by
 have:=Mw.gP (E:=qG) h GK (t:=172) underlying172 (z:=.int .u32 0) κ (x:=x) hx false
 rw[Lk.qV]at this;exact this
theorem UH {y:World} {DD:Lk.MP} (h:Mw.fw qS y D (Lk.gY DD)) (x:Int×Int) (hx:Gm.In x.1/\Gm.In x.2) :
  (Instr.lookup 123 (.map (some D)) (.agg #[.int .i64 x.1,.int .i64 x.2]) false).run prog y=.ok (.int .u32 (Lk.gN DD x:Int)) y:=by
 have:=Mw.gP (E:=qS) h Hg (t:=123) underlying123 (z:=.int .u32 0) κ (x:=x) hx false
 rw[Lk.qV]at this;exact this
theorem Lk.pE (MM:Lk.MP) (x:Int×Int):Mw.fH (Mw.hX (Lk.gY MM) x ((Mw.fH (Lk.gY MM) x).getD (.int .u32 0))) x=some (.int .u32 (Lk.gN MM x:Int)):=by
 rw[Lk.qV,Mw.j6,Az rfl]
theorem K4 (w:World) (base R gc T M D:Nat) (g0 g1 g2 g3 tv:Value) (tl:List ((Int×Int)×Value)) (MM DD:Lk.MP) (st:List (Int×Int)) (x:Int×Int) (more:Nat) (h:iD w base R gc T M D g0 g1 g2 g3 tv tl MM DD st) (hx:Gm.In x.1/\Gm.In x.2) (hm:more<4294967296) (hM:Lk.gN MM x<4294967296) (ad:st.length<=900000) :
  Calls prog 148 #[lV x,.int .u32 (more:Int),.pointer (some ⟨R,0,none⟩),.pointer (some ⟨gc,0,none⟩)] w fun e w'=>e=.returned (.tuple #[])/\iD w' base R gc T M D g0 g1 g2 g3 tv tl (vM MM x more) DD (vS MM st x more)/\Below base w w'/\fE gc M D w w':=by
 obtain⟨wb,n⟩:=χ (w.alloc (.cells #[.int .i64 x.1,.int .i64 x.2] 176))
 have F:Hid (β w wb):=aA (by rw[n];exact(AB _ _).alloc (Af _) _);have p:wb.heap[w.heap.size]?=some (.cells #[.int .i64 x.1,.int .i64 x.2] 176 (0,0)):=by rw[n];exact AI w _
 have am:=aA p;have HH:=aA (h.below F.o);have s:=aA h.gf;have bp:=aA h.nD;have bf:=aA h.m.lt;have bq:=aA h.d.lt
 have br:=aA (show ∀v,w.cell? ⟨gc,0,none⟩=some v->∀k,v.ownBlock=some k->k<w.heap.size from fun v hv k hk=>by
  obtain⟨v',h2,h3⟩:=h.v
  have:=AF w gc 0 _ _ _ h2
  rw[hv]at this;injection this with this;subst this;exact(Br h3 k hk).2)
 have bs:=aA hx;have a0:Hid (fE gc M D w wb):=aA (.below F.o h.nD);have cM:=yQ HH.o.r;have x0:=aQ p;have x1:=aU p;have lk:=J6 HH.o.m.is x hx;have bu:=u32_andNot_nat more (Lk.gN MM x) hm hM;by_cases hn:Lk.gN MM x ||| more=Lk.gN MM x
 ·have e1:vM MM x more=MM:=by unfold vM;rw[Az hn]
  have e2:vS MM st x more=st:=by unfold vS;rw[Az hn]
  have hz:(((more &&& (4294967295-Lk.gN MM x):Nat):Int) != 0)=false:=by rw[(Gm.ox hM hm).2 hn];rfl
  rw[e1,e2];clear e1 e2 hn h hx p hm hM ad;generalize Lk.gN MM x=a at *;generalize more &&& (4294967295-a)=d at *
  go_enter func148,ntmps148
  go_upto_region 1 with fail
  rw[<-n];clear n;go_wp2;go_end0
  exact⟨rfl,HH.o,F.o.mono s.o,a0.o⟩
 ·have e1:vM MM x more=Lk.qE MM x more:=by unfold vM;rw[AJ hn]
  have e2:vS MM st x more=st++[x]:=by unfold vS;rw[AJ hn]
  have hz:(((more &&& (4294967295-Lk.gN MM x):Nat):Int) != 0)=true:=by
   have:(more &&& (4294967295-Lk.gN MM x))≠0:=fun e=>hn ((Gm.ox hM hm).1 e)
   rw[DW];omega
  have bv:=Fdq (Lk.gN MM x) more hM hm;rw[e1,e2];have a1:Hid (Mw.hX (Lk.gY MM) x (.int .u32 ((Lk.gN MM x ||| more:Nat):Int))=Lk.gY (Lk.qE MM x more)):=aA Lk.oj;have ao:=aA ad
  have ap:Hid (∀y:World,y.heap[R]?=wb.heap[R]?->y.heap[w.heap.size]?=wb.heap[w.heap.size]?->∃z:iR [R,w.heap.size] wb,y=z.1):=aA (fun y e1 e2=>⟨⟨y,fun g hg=>by
   rcases BB.1 hg with rfl|hg
   ·exact e1
   ·rw[AW.1 hg];exact e2⟩,rfl⟩)
  have aj:=HH.o.Gc;have a2:Hid (M≠w.heap.size):=aA (by have:=bf.o;omega);have a3:Hid (R≠M):=aA aj.2.2.2.1;have bg:Hid (gc≠M):=aA aj.1;have bw:Hid (gc≠D):=aA aj.2.1;have a4:Hid (w.heap.size<wb.heap.size):=aA (Ad.1 p).1;have HD:Hid (iD wb.drew base R gc T M D g0 g1 g2 g3 tv tl MM DD st):=aA (HH.o.below (aB (AB _ _) 1));have lkd:=J6 HD.o.m.is x hx;obtain⟨u,cc,w6,aa,ae,af,ak⟩:=Mw.sI HD.o.m GK underlying172 (z:=.int .u32 0) κ (x:=x) hx
  have lk6:(Instr.lookup 172 (.map (some M)) (.agg #[.int .i64 x.1,.int .i64 x.2]) false).run prog w6=.ok (.int .u32 (Lk.gN MM x:Int)) w6:=by
   have:=Mw.gP (E:=qG) af GK (t:=172) underlying172 (z:=.int .u32 0) κ (x:=x) hx false
   rw[Lk.pE]at this;exact this
  obtain⟨w7,ab,aq,a5⟩:=ae.2 w6 rfl (.int .u32 ((Lk.gN MM x ||| more:Nat):Int));have ag:qG.enc x=.agg #[.int .i64 x.1,.int .i64 x.2]:=rfl;rw[ag]at aa;rw[a1.o]at aq;have i:=aA (qI ak a5);have H7:=aA (HD.o.I6 i.o aq);have r6:=(ak.block R (Ad.1 HD.o.r).1 (fun e=>by injection e with e;exact a3.o e))
  have xb6:=(ak.block w.heap.size (show w.heap.size<wb.drew.heap.size from a4.o) (fun e=>by injection e with e;exact a2.o e.symm))
  have xb7:=(i.o.block w.heap.size (show w.heap.size<wb.drew.heap.size from a4.o) (fun e=>by injection e with e;exact a2.o e.symm))
  have r7:=(i.o.block R (Ad.1 HD.o.r).1 (fun e=>by injection e with e;exact a3.o e))
  have ar:=aA (ap.o wb.drew rfl rfl);have B:=aA (ap.o w6 r6 xb6);have a6:=aA (ap.o w7 r7 xb7);have a9:Hid (w7.heap[w.heap.size]?=some (.cells #[.int .i64 x.1,.int .i64 x.2] 176 (0,0))):=aA (xb7.trans am.o);have ac:=aA aa;have ah:=aA ab;have au:=aA lk6;have av:=aA lkd;have ba:Hid (Below base w w7):=aA (aM ((F.o.trans (aB (AB _ _) 1)).mono s.o) i.o h.hM (Ah s.o F.o.size));have bh:Hid (wb.heap[R]?=some (.cells (qH g0 g1 g2 g3 tv T M D) 174 (0,0))):=aA HH.o.r;have bi:Hid (base<=gc):=aA h.hg;have bj:Hid (fE gc M D w w7):=aA ((a0.o.trans (.below (aB (AB _ _) 1) HH.o.nD)).trans (.map i.o HD.o.nD bg.o));clear e1 e2 hn h hx p hm hM ad aj aa ab ae af ak aq a5 r6 r7 xb6 xb7 lk6 lkd ag a1;generalize Lk.gN MM x=a at *;generalize more &&& (4294967295-a)=d at *;generalize bb:wb.drew=wd at *
  go_enter func148,ntmps148
  go_upto_region 1 with fail
  rw[<-n];clear n;go_upto_region 2 with fail
  have qM:∀y:iR [R,w.heap.size] wb,y.1.cell? ⟨R,6,none⟩=some (.map (some M)):=fun y=>y.row σ bh.o rfl;have q0:∀y:iR [R,w.heap.size] wb,y.1.cell? ⟨w.heap.size,0,none⟩=some (.int .i64 x.1):=fun y=>y.row σ am.o rfl;have q1:∀y:iR [R,w.heap.size] wb,y.1.cell? ⟨w.heap.size,1,none⟩=some (.int .i64 x.2):=fun y=>y.row σ am.o rfl;clear x0 x1 cM lk;have S0:∃y:iR [R,w.heap.size] wb,wb.drew=y.1:=by rw[bb];exact ar.o
  refine CalmN.fk (fun x=>∃y:iR [R,w.heap.size] wb,x=y.1) (.two [0,1,2,4] 3 (.one [5] 6 (.one [7] 8 (.fin []))) 6 (.one [7] 3 (.one [5] 8 (.fin [])))) S0 ?_;rw[CalmN.fS];simp only[CalmN.fo,Aq,Ai,Am];repeat (go_big_quiet_step (fail))
  rw[bb];clear S0;refine Ap ⟨?_,?_⟩
  case' refine_1 =>
   simp only[CalmN.fS,CalmN.fu,CalmN.fo,Aq,Ai,Am];intro KK b;rw[Az ε];have lkd:=av.o;go_wp2_with fail
   refine b _ _ ar.o _ ι ar.o ?_;clear b lkd;repeat (go_big_quiet_step (fail))
   refine Ap ?_;intro KK b;rw[Az ε];refine GM _ _ _ rfl ac.o rfl rfl ?_;refine b _ _ B.o _ ι B.o ?_;clear b
   go_frame
   repeat (go_big_quiet_step (fail))
   refine Ap ?_
  case' refine_2 =>
   simp only[CalmN.fS,CalmN.fu,CalmN.fo,Aq,Ai,Am];intro KK b;rw[Az ε];refine GM _ _ _ rfl ac.o rfl rfl ?_;refine b _ _ B.o _ ι B.o ?_;clear b
   go_frame
   repeat (go_big_quiet_step (fail))
   refine Ap ?_;intro KK b;rw[Az ε];have lk6:=au.o;go_wp2_with fail
   refine b _ _ B.o _ ι B.o ?_;clear b lk6;repeat (go_big_quiet_step (fail))
   refine Ap ?_
  all_goals
   intro KK b;rw[Az ε];refine Jr _ _ _ _ rfl ah.o rfl rfl rfl ?_;refine b _ _ a6.o _ ι a6.o ?_;clear b qM q0 q1
   go_frame
   refine Ap ?_;obtain⟨v,aw,ax⟩:=H7.o.v;obtain⟨A,c,rfl,bk,bl,_⟩:=aK.form ax aG;have c0:=aQ aw;have x0:=aQ a9.o;have x1:=aU a9.o;have al:Hid (Below w7.heap.size w7 (w7.alloc (.cells #[.int .i64 x.1,.int .i64 x.2] 176))):=aA ((AB _ _).alloc (Af _) _);have l:=aA (ax.alloc (.cells #[.int .i64 x.1,.int .i64 x.2] 176));have C:=aA (aC al.o aw);have ay:=aA (AI w7 (.cells #[.int .i64 x.1,.int .i64 x.2] 176));have az:Hid (Below base w (w7.alloc (.cells #[.int .i64 x.1,.int .i64 x.2] 176))):=aA (ba.o.trans (al.o.mono (Ah s.o ba.o.size)));have bm:Hid (fE gc M D w (w7.alloc (.cells #[.int .i64 x.1,.int .i64 x.2] 176))):=aA (bj.o.trans (.below al.o H7.o.nD));have bn:=aA (H7.o.below al.o);have bo:Hid (cD w7 gc=(Value.slice A st.length c).ownBlock):=aA (Fz c0);clear aw ax bk bl;go_wp2_with (at_builtin;refine LM (f:=fM) rfl (.tmp 21) (.tmp 23) _ rfl underlying227 _ 16 Ul δ δ δ aG tA base _ st rfl l.o _ _ x rfl (Rm x _ _ ay.o) (by have:=ao.o;omega) (Ah s.o az.o.size) ?_;intro v5 w5 bc bd ai;have j:=aA (Ca bc (Ca bd ai));clear bc bd ai;have c5:=AF w5 gc 0 _ _ _ (aJ l.o j.o.2.1 C.o fun cur=>aH δ);have f5:=AM w5 gc 0 _ _ (aJ l.o j.o.2.1 C.o fun cur=>aH δ);have l5:=(Ad.1 (aJ l.o j.o.2.1 C.o fun cur=>aH δ)).1;obtain⟨A5,c5',rfl,_,_,_⟩:=aK.form j.o.1 aG;generalize (st++[x]).length=ln at *)
   go_end0
   exact⟨rfl,bn.o.push C.o l.o j.o.1 j.o.2.1,(az.o.grown j.o.2.1 (Ah s.o az.o.size) (fun k e=>(Br l.o k e).1)).setCell bi.o _,bm.o.push (AF _ gc 0 _ _ _ C.o) j.o.2.1 j.o.2.2 (aJ l.o j.o.2.1 C.o fun cur=>aH δ)⟩
def zi (s:List Nat):List Int:=s.map Int.ofNat
theorem Iz (s:List Nat):(zi s).length=s.length:=by simp[zi]
theorem JY (s:List Nat) (i:Nat):(zi s).getD i 0=((s.getD i 0:Nat):Int):=by
 unfold zi;rw[Aw,Aw,BO];cases s[i]? <;> rfl
theorem Tw (s:List Nat) (i v:Nat):(zi s).set i (v:Int)=zi (s.set i v):=by unfold zi;rw[Cy];rfl
theorem Tf (n:Nat):zi (List.replicate n 0)=List.replicate n 0:=by simp[zi]
def qB (w:World) (B:Nat) (A:Option Addr) (s:List Nat):Prop:=jN w B A (zi s)
def jc (w:World) (g:Nat) (s:List Nat):Prop:=iP w g (zi s)
theorem jc.lt {w:World} {g:Nat} {s:List Nat} (h:jc w g s):g<w.heap.size:=iP.lt h
theorem jc.cell {w:World} {g:Nat} {s:List Nat} (h:jc w g s) (i:Nat) (hi:i<s.length):w.cell? ⟨g,i,none⟩=some (.int .u32 ((s.getD i 0:Nat):Int)):=by
 have:=iP.cell h i (by rw[Iz];exact hi)
 rwa [JY]at this
theorem jc.frozen {w:World} {g:Nat} {s:List Nat} (h:jc w g s) (i:Nat):w.frozen? ⟨g,i,none⟩=false:=iP.frozen h i
theorem jc.ky {w:World} {g:Nat} {s:List Nat} (h:jc w g s) (i v:Nat):jc (w.setCell ⟨g,i,none⟩ (.int .u32 (v:Int))) g (s.set i v):=by
 have:=iP.ky h i (v:Int)
 rwa [Tw]at this
theorem jc.alloc {w:World} {g:Nat} {s:List Nat} (h:jc w g s) (o:Obj):jc (w.alloc o) g s:=iP.alloc h o
theorem jc.below {w w':World} {g B:Nat} {s:List Nat} (h:jc w g s) (hb:Below B w w') (hg:g<B):jc w' g s:=iP.below h hb hg
theorem jc.jv {w:World} {g:Nat} {s:List Nat} (h:jc w g s) {p:Addr} (hp:g≠p.block) (u:Value):jc (w.setCell p u) g s:=iP.jv h hp u
theorem jc.drewN {s:List Nat} (h:jc w g s) (n:Nat):jc (w.drewN n) g s:=h
theorem jc.rd {s:List Nat} (h:jc w g s) (hB:g<B):qB w B (some ⟨g,0,none⟩) s:=iP.p7 h hB
theorem qB.cell {w:World} {B g o:Nat} {s:List Nat} (h:qB w B (some ⟨g,o,none⟩) s) (i:Nat) (hi:i<s.length):w.cell? ⟨g,o+i,none⟩=some (.int .u32 ((s.getD i 0:Nat):Int)):=by
 have:=jN.cell h i (by rw[Iz];exact hi)
 rwa [JY]at this
theorem qB.addr {s:List Nat} (h:qB w B A s) (h0:s.length≠0):∃g o,A=some ⟨g,o,none⟩/\g<B/\∀i,i<s.length->w.cell? ⟨g,o+i,none⟩=some (.int .u32 ((s.getD i 0:Nat):Int)):=by
 obtain⟨g,o,e,hg,hc⟩:=h (by rw[Iz];exact h0);refine⟨g,o,e,hg,fun i hi=>?_⟩
 have:=hc i (by rw[Iz];exact hi)
 rwa [JY]at this
theorem qB.fp {w w':World} {B:Nat} {A:Option Addr} {s:List Nat} (h:qB w B A s) (hk:∀g o,g<B->w'.cell? ⟨g,o,none⟩=w.cell? ⟨g,o,none⟩):qB w' B A s:=jN.fp h hk
theorem qB.below {w w':World} {B B':Nat} {A:Option Addr} {s:List Nat} (h:qB w B A s) (hb:Below B' w w') (hB:B<=B'):qB w' B A s:=jN.below h hb hB
theorem qB.more {w:World} {B B':Nat} {A:Option Addr} {s:List Nat} (h:qB w B A s) (hB:B<=B'):qB w B' A s:=jN.more h hB
def Ko (w:World) (g:Nat):Nat:=match w.heap[g]? with
 | some (.cells cs _ _)=>(cs.toList.map fun v=>match v with | .int _ z=>4294967296-z.toNat|_=>0).sum
 | _=>0
theorem jc.xc {s:List Nat} (h:jc w g s):Ko w g=Gm.Fo s:=by
 unfold Ko Gm.Fo;rw[show w.heap[g]?=_ from h];clear h;simp only[zi,Ee]
 congr 1
theorem K6 (z:Int) (w:World) :
  Calls prog 228 #[.int .i64 z] w fun e w'=>e=.returned (.bool (decide (z<0)))/\w'=w:=by
 go_enter func228,ntmps228
 go_wp2;go_ret
 exact⟨rfl,rfl⟩
theorem Mo (z:Int) (hz:-9223372036854775808<=z) (aa:z<=9223372036854775807) (w:World) :
  Calls prog 229 #[.int .i64 z] w fun e w'=>e=.returned (.int .i64 (-1-z))/\w'=w:=by
 have hs:IntKind.i64.wrap (-1-z) = -1-z:=BV _ ω;clear hz aa
 go_enter func229,ntmps229
 go_wp2;go_ret
 exact⟨rfl,rfl⟩
theorem Rv (n:Int) (w:World) :
  Calls prog 230 #[.int .i64 n] w fun e w'=>e=.returned (.int .u32 (S.bit n))/\β w w':=by
 have H:=aA (show Calls prog 234 #[.slice (some ⟨w.heap.size,0,none⟩) 1 1] (w.alloc (.cells #[.int .i64 n] 3)) _ from SO (some ⟨w.heap.size,0,none⟩) 1 (w.alloc (vJ [n])).heap.size [n] (w.alloc (vJ [n])) (FO w [n]).1 σ);have HB:=aA (FO w [n]).2;rw[S.zw]at H
 go_enter func230,ntmps230
 go_wp2_with fail
 refine H.o.mono ?_;rintro _ w2 ⟨rfl,q,rfl⟩;go_wp2;go_ret
 exact⟨rfl,aB HB.o q⟩
def Gm.tL (fs:List Nat) (z:Int):Nat:=if 0<=z then 2 ^ z.toNat else fs.getD (-1-z).toNat 0
def Gm.xw (nu:List Bool) (z:Int):Bool:=decide (z<0)&&nu.getD (-1-z).toNat false
theorem Gm.uL (nu:List Bool) (fs:List Nat) (rest:Nat) (z:Int) (r:List Int):Gm.jG nu fs rest (z::r)=Gm.tL fs z ||| (if Gm.xw nu z=true then Gm.jG nu fs rest r else 0):=by
 rw[Gm.jG];unfold Gm.tL Gm.xw;by_cases h:0<=z
 ·rw[Az h,Az h,AU ω];simp
 ·rw[AJ h,AJ h,AV ω];simp
theorem Gm.yZ {fs:List Nat} (h:Gm.nA fs) (hz:z<=31):Gm.tL fs z<4294967296:=by
 unfold Gm.tL;split
 ·have:=Co (n:=2) δ (show z.toNat<=31 by omega)
  omega
 ·exact h _
theorem PD (z:Int) (fs:List Nat) (A A2:Option Addr) (n c c2 B:Nat) (w:World) (hz:Gm.In z) (ab:z<=31) (hs:z<0->-1-z<(fs.length:Int)) (hr:qB w B A2 fs) (hB:B<=w.heap.size) :
  Calls prog 216 #[.agg #[.slice A n c,.slice A2 fs.length c2],.int .i64 z] w fun e w'=>e=.returned (.int .u32 (Gm.tL fs z))/\β w w':=by
 unfold Gm.In at hz;have HI:=aA (fun w=>K6 z w);have HX:=aA (fun w=>Mo z hz.1 hz.2 w);have HO:=aA (fun w=>Rv z w);have HB:=aA (fun o=>(AB w.heap.size w).alloc (Af _) o);by_cases h0:z<0
 ·have hm:=hs h0;have d:Gm.tL fs z=fs.getD (-1-z).toNat 0:=by unfold Gm.tL;rw[AJ ω]
  obtain⟨m,he⟩:∃m:Nat,-1-z=(m:Int):=⟨(-1-z).toNat,ω⟩
  rw[d];rw[he]at HX hm ⊢;have ad:m<fs.length:=ω
  obtain⟨g,o,rfl,af,hc⟩:=hr.addr ω;have k0:=hc m ad;have ag:g<w.heap.size:=ω
  simp only[Cj];rw[AV h0]at HI;generalize fs.getD m 0=b at *;clear hz hs hr hc h0 he ab d HO
  go_enter func216,ntmps216
  go_wp2_with fail
  refine(HI.o _).mono ?_;rintro _ w2 ⟨rfl,aa⟩;subst aa;go_wp2_with fail
  go_quiet ((go_at_call 229;exact DF (HX.o _)))
  go_wp2;go_ret
  exact⟨rfl,aB (HB.o _) _⟩
 ·have d:Gm.tL fs z=S.bit z:=by unfold Gm.tL S.bit;rw[Az ω,Az ω]
  rw[d];rw[AU h0]at HI;clear hz hs hr h0 HX ab d
  go_enter func216,ntmps216
  go_wp2_with fail
  refine(HI.o _).mono ?_;rintro _ w2 ⟨rfl,aa⟩;subst aa;go_wp2_with fail
  refine(HO.o _).mono ?_;rintro _ w2 ⟨rfl,ac⟩;have ae:=aA ((HB.o _).trans (ac.mono σ));clear ac;go_wp2;go_ret
  exact⟨rfl,ae.o⟩
theorem Qv (z:Int) (nu:List Bool) (A A2:Option Addr) (n c c2 B:Nat) (w:World) (hz:Gm.In z) (hs:z<0->-1-z<(nu.length:Int)) (hr:jk w B A nu) (hB:B<=w.heap.size) :
  Calls prog 217 #[.agg #[.slice A nu.length c,.slice A2 n c2],.int .i64 z] w fun e w'=>e=.returned (.bool (Gm.xw nu z))/\β w w':=by
 unfold Gm.In at hz;have HI:=aA (fun w=>K6 z w);have HX:=aA (fun w=>Mo z hz.1 hz.2 w);have HB:=aA (fun o=>(AB w.heap.size w).alloc (Af _) o);by_cases h0:z<0
 ·have hm:=hs h0;have d:Gm.xw nu z=nu.getD (-1-z).toNat false:=by unfold Gm.xw;rw[AV h0,Cw]
  obtain⟨m,he⟩:∃m:Nat,-1-z=(m:Int):=⟨(-1-z).toNat,ω⟩
  rw[d];rw[he]at HX hm ⊢;have aa:m<nu.length:=ω
  obtain⟨g,o,rfl,ab,hc⟩:=hr ω;have k0:=hc m aa;have ac:g<w.heap.size:=ω
  simp only[Cj];rw[AV h0]at HI;generalize nu.getD m false=b at *;clear hz hs hr hc h0 he d
  go_enter func217,ntmps217
  go_wp2_with fail
  go_quiet (first|(go_at_call 229;exact DF (HX.o _))|(go_at_call 228;exact DF (HI.o _)))
  go_wp2;go_ret
  exact⟨rfl,aB (HB.o _) _⟩
 ·have d:Gm.xw nu z=false:=by unfold Gm.xw;rw[AU h0,CZ]
  rw[d];rw[AU h0]at HI;clear hz hs hr h0 HX d
  go_enter func217,ntmps217
  go_wp2_with fail
  go_quiet ((go_at_call 228;exact DF (HI.o _)))
  go_wp2;go_ret
  exact⟨rfl,aB (HB.o _) _⟩
theorem Gm.uM (nu:List Bool) (fs:List Nat) (rest:Nat) (l:List Int) (k:Nat) (hk:k<l.length) (s:Nat):s ||| Gm.jG nu fs rest (l.drop k)=(s ||| Gm.tL fs l[k]) ||| (if Gm.xw nu l[k]=true then Gm.jG nu fs rest (l.drop (k+1)) else 0):=by
 rw[BJ hk,Gm.uL,Nat.or_assoc]
theorem MF (l:List Int) (rest:Nat) (nu:List Bool) (fs:List Nat) (A A1 A2:Option Addr) (c c1 c2 B B1 B2:Nat) (w:World) (hr:gg w B A l) (h1:jk w B1 A1 nu) (h2:qB w B2 A2 fs) (hB:B<=w.heap.size) (ap:B1<=w.heap.size) (aq:B2<=w.heap.size) (ac:∀z∈l,Gm.In z) (ad:∀z∈l,z<=31) (hs:∀z∈l,z<0->-1-z<(fs.length:Int)) (hn:nu.length=fs.length) (hf:Gm.nA fs) (aa:rest<4294967296) (hl:l.length<=9223372036854775807) :
  Calls prog 189 #[.agg #[.slice A1 nu.length c1,.slice A2 fs.length c2],.slice A l.length c,.int .u32 rest] w fun e w'=>e=.returned (.int .u32 (Gm.jG nu fs rest l))/\β w w':=by
 have i:=aA ((AB w.heap.size w).alloc (Af _) (.cells #[.slice A1 nu.length c1,.slice A2 fs.length c2] 258));obtain⟨wk,j⟩:=χ (w.alloc (.cells #[.slice A1 nu.length c1,.slice A2 fs.length c2] 258))
 have HS:Hid (wk.heap.size=w.heap.size+1):=aA (by rw[j];simp);have hd:w.heap.size<wk.heap.size:=by rw[HS.o];omega
 have HK:=aA (show wk.heap[w.heap.size]?=some (.cells #[.slice A1 nu.length c1,.slice A2 fs.length c2] 258 (0,0)) by rw[j];exact AI w _);rw[<-j]at i;have ar:=aA (hr.below i.o hB);have au:=aA hB;have av:=aA (fun(y:World) (hy:β wk y) z (hz:z∈l)=>PD z fs A1 A2 nu.length c1 c2 B2 y (ac z hz) (ad z hz) (hs z hz) (h2.fp fun g o hg=>((i.o.trans (hy.mono (Cx hd))).cell (p:=⟨g,o,none⟩) (by simp only;omega))) (by have:=hy.size;omega));have aw:=aA (fun(y:World) (hy:β wk y) z (hz:z∈l)=>Qv z nu A1 A2 fs.length c1 c2 B1 y (ac z hz) (fun h=>by rw[hn];exact hs z hz h) (h1.fp fun g o hg=>((i.o.trans (hy.mono (Cx hd))).cell (p:=⟨g,o,none⟩) (by simp only;omega))) (by have:=hy.size;omega));have ax:=aA (fun z hz=>Gm.yZ hf (ad z hz));have ay:=aA aa;have az:=aA (Gm.uM nu fs rest l);have ae:=aA (fun(k:Nat) (hk:k<l.length)=>AD hk);have h0:(l.length:Int)<=9223372036854775807:=ω
 obtain⟨r,af⟩:∃r,r=Gm.jG nu fs rest l:=⟨_,rfl⟩
 have a0:=aA af;rw[<-af];clear hr h1 h2 ac ad hs hn hf hB ap aq hl af aa
 go_enter func189,ntmps189
 go_upto_region 1 with fail
 rw[<-j];clear j;go_wp2;go_loopw [12,7] (fun vi vs wr=>∃(k s:Nat),k<=l.length/\vi=.int .i64 k/\vs=.int .u32 s/\Hid (s<4294967296)/\Hid (r=s ||| Gm.jG nu fs rest (l.drop k))/\Hid (β wk wr)) (fun vi _ _=>l.length-(intOf vi).toNat)
 case atStart=>exact⟨0,0,Bb _,rfl,rfl,aA δ,aA (by rw[a0.o];simp),aA (AB _ _)⟩
 case round =>
  obtain⟨k,s,hk,rfl,rfl,HL,HE,d⟩:=hrel;have kc:wr.heap[w.heap.size]?=some (.cells #[.slice A1 nu.length c1,.slice A2 fs.length c2] 258 (0,0)):=(d.o.block w.heap.size hd).trans HK.o;have q0:=AF wr _ 0 _ _ _ kc;have q1:=AF wr _ 1 _ _ _ kc;have a2:w.heap.size<wr.heap.size:=Aj hd d.o.size;by_cases f:k<l.length
  ·obtain⟨g,o,rfl,a3,hc⟩:=(ar.o.fp fun g o hg=>(d.o.cell (p:=⟨g,o,none⟩) (by have:=au.o;simp only;omega))) ω
   have k0:=hc k f;rw[L.fy f]at k0;have a1:=aA (fun y hy=>av.o y hy _ (ae.o k f));have ag:=aA (fun y hy=>aw.o y hy _ (ae.o k f));have ab:=aA (HE.o.trans (az.o k f s));have ah:=aA (ax.o _ (ae.o k f));clear hc;generalize l[k]=z at *;have ho:=aA (Fdq s (Gm.tL fs z) HL.o ah.o);have ai:=aA (Gm.s6 HL.o ah.o);generalize Gm.tL fs z=b at *;obtain⟨s2,aj⟩:∃s2,s2=s ||| b:=⟨_,rfl⟩
   rw[<-aj]at ho ai ab;clear aj;cases ak:Gm.xw nu z
   all_goals
    rw[ak]at ag ab;clear ak;go_wp2_with fail
    refine(a1.o _ d.o).mono ?_;rintro _ w2 ⟨rfl,al⟩;have m:=aA (d.o.trans (al.mono d.o.size));have kc2:=(m.o.block w.heap.size hd).trans HK.o;have p0:=AF w2 _ 0 _ _ _ kc2;have p1:=AF w2 _ 1 _ _ _ kc2;have a4:w.heap.size<w2.heap.size:=Aj hd m.o.size;clear q0 q1 kc k0 al kc2;go_wp2_with fail
    refine(ag.o _ m.o).mono ?_;rintro _ w3 ⟨rfl,am⟩;have ao:=aA (m.o.trans (am.mono m.o.size));clear am;go_wp2_with fail
   focus
    go_ret
    refine⟨aR ?_,i.o.trans (ao.o.mono (Cx hd))⟩;rw[ho.o,ab.o];simp
   focus
    go_roundw
    case rel=>exact⟨k+1,s2,f,ν,by rw[ho.o],ai,aA (by rw[ab.o];simp),ao⟩
    case measure=>simp[intOf];omega
  ·obtain rfl:k=l.length:=ω
   have ho:=aA (Fdq s rest HL.o ay.o);have HX:Hid (r=s ||| rest):=aA (by rw[HE.o,Et];rfl);go_wp2_with fail
   go_ret
   exact⟨aR (by rw[ho.o,HX.o]),i.o.trans (d.o.mono (Cx hd))⟩
structure kP (w wr:World) (gk n ck:Nat) (s:List Nat) (b:Bool):Prop where
 u:jc wr gk s
 l:s.length=n
 q:wr.heap[w.heap.size]?=some (.cells #[.slice (some ⟨gk,0,none⟩) n ck] 102 (0,0))
 p:wr.heap[w.heap.size+1]?=some (.cells #[.bool b] 4 (0,0))
 g:w.grownBy wr (some gk)
 k:gk<w.heap.size
section
variable {w wr w':World} {gk n ck:Nat} {s:List Nat} {b:Bool}
theorem kP.below (h:kP w wr gk n ck s b) (hb:β wr w'):kP w w' gk n ck s b:=⟨h.u.below hb h.u.lt,h.l,aC hb h.q,aC hb h.p,qI h.g (aL hb _),h.k⟩
theorem kP.alloc (h:kP w wr gk n ck s b) (o:Obj):kP w (wr.alloc o) gk n ck s b:=h.below ((AB _ wr).alloc (Af _) o)
theorem kP.drewN (h:kP w wr gk n ck s b) (m:Nat):kP w (wr.drewN m) gk n ck s b:=⟨h.u,h.l,h.q,h.p,Ig h.g m,h.k⟩
theorem kP.hs (h:kP w wr gk n ck s b):w.heap.size+1<wr.heap.size:=(Ad.1 h.p).1
theorem kP.Gf (h:kP w wr gk n ck s b) (b':Bool):kP w (wr.setCell ⟨w.heap.size+1,0,none⟩ (.bool b')) gk n ck s b' :=
 ⟨h.u.jv (by have:=h.k;simp only;omega) _,h.l,(AQ wr ⟨w.heap.size+1,0,none⟩ _ _ (by simp only;omega)).trans h.q,Ba wr _ 0 _ _ _ h.p,⟨h.g.os,h.g.tape,h.g.output,by have:=h.g.size;simpa using this,fun i hi aa=>(AQ wr ⟨w.heap.size+1,0,none⟩ _ i (by simp only;omega)).trans (h.g.block i hi aa)⟩,h.k⟩
theorem kP.put (h:kP w wr gk n ck s b) (m v:Nat):kP w (wr.setCell ⟨gk,m,none⟩ (.int .u32 (v:Int))) gk n ck (s.set m v) b :=
 ⟨h.u.ky m v,by rw[CE];exact h.l,(AQ wr ⟨gk,m,none⟩ _ _ (by have:=h.k;simp only;omega)).trans h.q,(AQ wr ⟨gk,m,none⟩ _ _ (by have:=h.k;simp only;omega)).trans h.p,aF h.g m _,h.k⟩
end
def bC (w:World) (g:Nat):Nat:=match w.heap[g]? with
 | some (.cells cs _ _)=>bN (cs.getD 0 undef)
 | _=>0
theorem N6 {b:Bool} {t:TypeId} {f:Nat×Nat} (h:w.heap[g]?=some (.cells #[.bool b] t f)):bC w g=if b=true then 1 else 0:=by
 unfold bC;rw[h];cases b <;> rfl
theorem RN (w wr:World) (gk n ck:Nat) (s:List Nat) (b:Bool) (m v:Nat) (hm:m<n) (hv:v<4294967296) (hs:Gm.nA s) (h:kP w wr gk n ck s b) :
  Calls prog 227 #[.int .i64 m,.int .u32 v,.pointer (some ⟨w.heap.size+1,0,none⟩),.pointer (some ⟨w.heap.size,0,none⟩)] wr fun e w'=>e=.returned (.tuple #[])/\kP w w' gk n ck (Gm.addN s m v) (b||decide (Gm.addN s m v≠s))/\w'.heap.size=wr.heap.size/\∀i,i≠gk->i≠w.heap.size+1->w'.heap[i]?=wr.heap[i]?:=by
 have aa:m<s.length:=by rw[h.l];exact hm
 have HN:=aA (Gm.ox (hs m) hv);have HA:=aA (Gm.sQ (v:=v) aa);have hx:=u32_andNot_nat v (s.getD m 0) hv (hs m);have ho:=Fdq (s.getD m 0) v (hs m) hv;have HH:=aA h;have c0:=aQ h.q;have c1:=aQ h.p;have f1:=AM wr _ 0 _ _ h.p;have cm:=h.u.cell m aa;have hd:=h.hs;have ad:=h.u.lt;have ae:(m:Int)<(n:Int):=ω
 generalize hB:(b||decide (Gm.addN s m v≠s))=b2;have HB:=aA hB;obtain⟨wy,f⟩:∃y,y=wr.setCell ⟨w.heap.size+1,0,none⟩ (.bool b2):=⟨_,rfl⟩
 have hy:kP w wy gk n ck s b2:=by rw[f];exact h.Gf b2
 have HZ:=aA (show kP w (wy.setCell ⟨gk,m,none⟩ (.int .u32 ((s.getD m 0 ||| v:Nat):Int))) gk n ck (Gm.addN s m v) b2 from hy.put m _);have ab:Hid (wy.heap.size=wr.heap.size):=aA (by rw[f];simp);have ac:Hid (∀i,i≠gk->i≠w.heap.size+1->(wy.setCell ⟨gk,m,none⟩ (.int .u32 ((s.getD m 0 ||| v:Nat):Int))).heap[i]?=wr.heap[i]?):=aA (fun i h1 h2=>by rw[AQ _ _ _ _ (by simp only;exact h1),f,AQ _ _ _ _ (by simp only;exact h2)]);have e0:=aQ hy.q;have em:=hy.u.cell m aa;have fm:=hy.u.frozen m;have af:=hy.hs;have ag:=hy.u.lt;clear hy hB h hs hm aa hv;cases b
 ·rw[Ff]at HB
  have ah:(((v &&& (4294967295-s.getD m 0):Nat):Int) != 0)=b2:=by
   have h1:=HN.o;have h2:=HA.o;rw[<-HB.o];by_cases e:v &&& (4294967295-s.getD m 0)=0
   ·rw[e,AU (p:=Gm.addN s m v≠s) (fun hn=>hn (h2.2 (h1.1 e)))];rfl
   ·rw[AV (p:=Gm.addN s m v≠s) (fun he=>e (h1.2 (h2.1 he)))];rw[DW];omega
  generalize v &&& (4294967295-s.getD m 0)=d at *;generalize s.getD m 0 ||| v=d2 at *;generalize s.getD m 0=d3 at *;clear HN HA HB HH
  go_enter func227,ntmps227
  go_upto_region 1 with fail
  rw[<-f];clear f c0 c1 f1 cm;go_wp2;go_end0
  exact⟨rfl,HZ.o,by rw[<-ab.o];simp,ac.o⟩
 ·rw[DQ]at HB;obtain rfl:=HB.o;generalize s.getD m 0 ||| v=d2 at *;generalize s.getD m 0=d3 at *;clear HN HA HB HH hx
  go_enter func227,ntmps227
  go_upto_region 1 with fail
  rw[<-f];clear f c0 c1 f1 cm;go_wp2;go_end0
  exact⟨rfl,HZ.o,by rw[<-ab.o];simp,ac.o⟩
theorem Gm.zj {s s1 s2:List Nat} (h1:Gm.kM s s1) (h2:Gm.kM s1 s2):(decide (s1≠s)||decide (s2≠s1))=decide (s2≠s):=by
 by_cases e:s1=s
 ·subst e;simp
 ·rw[AV e,DQ]
  symm
  rw[Cr];rintro rfl;exact e (h1.nj h2)
theorem Ru (fb:Nat) (caps:Array Value) (hE:∀args w,Sem.run prog (callFunc fb args) w=.ok (.enter fb args) w) (rs:List Gm.Rl) (AR:Option Addr) (cR ck B gk n:Nat) (w:World) (s0:List Nat) (P:List Nat->Prop) (br:List Nat->Gm.Rl->List Nat) (hR:qL w B AR rs) (hB:B<=w.heap.size) (ak:B<=gk) (hu:jc w gk s0) (hn:s0.length=n) (h0:P s0) (hl:rs.length<=1000000) (al:∀s x,Gm.kM s (br s x)) (hP:∀s x,x∈rs->P s->P (br s x)) (am:∀s,P s->Gm.nA s) (ao:∀(y:World) (s:List Nat) (b:Bool) (x:Gm.Rl) (A':Option Addr) (c':Nat),kP w y gk n ck s b->P s->x∈rs->gg y B A' x.r->x.r.length<=c'->Calls prog fb (#[.agg #[.int .i64 x.l,.slice A' x.r.length c',.int .i64 x.p],.func (Fn.func 227) #[] #[.pointer (some ⟨w.heap.size+1,0,none⟩),.pointer (some ⟨w.heap.size,0,none⟩)]]++caps) y fun e w'=>e=.returned (.tuple #[])/\kP w w' gk n ck (br s x) (b||decide (br s x≠s))/\y.heap.size<=w'.heap.size) :
  Calls prog 214 #[.slice (some ⟨gk,0,none⟩) n ck,.slice AR rs.length cR,.func (Fn.func fb) #[] caps] w fun e w'=>e=.returned (.tuple #[])/\∃s,P s/\(∀x∈rs,br s x=s)/\jc w' gk s/\s.length=n/\w.grownBy w' (some gk):=by
 have HR:=aA hR;have HB:=aA hB;have HK:=aA ak;have ax:=aA ao;have ap:=aA al;have HP:=aA hP;have ay:=aA am;have az:(rs.length:Int)<=9223372036854775807:=ω
 have ac:=AI w (.cells #[.slice (some ⟨gk,0,none⟩) n ck] 102);have ad:=hu.alloc (.cells #[.slice (some ⟨gk,0,none⟩) n ck] 102);obtain⟨w1,f⟩:=χ (w.alloc (.cells #[.slice (some ⟨gk,0,none⟩) n ck] 102))
 rw[<-f]at ac ad;have a0:w1.heap.size=w.heap.size+1:=by rw[f];simp
 have aq:w.grownBy w1 (some gk):=by rw[f];exact aI (AO _ _) _
 have ae:kP w (w1.alloc (.cells #[.bool true] 4)) gk n ck s0 true :=
  ⟨ad.alloc _,hn,(BD _ _ _ ω).trans ac,by rw[<-a0];exact AI w1 _,aI aq _,hu.lt⟩
 obtain⟨w2,af⟩:=χ (w1.alloc (.cells #[.bool true] 4))
 rw[<-af]at ae;have a1:=aA ae;have H0:=aA h0;clear hR hB ak hu hn hl ao al hP am ac ad aq ae h0
 go_enter func214,ntmps214
 go_upto_region 1 with fail
 rw[<-f];clear f;go_upto_region 2 with fail
 rw[<-af];clear af;go_wp2;go_loopw [11] (fun _ wr=>∃(s:List Nat) (b:Bool),Hid (kP w wr gk n ck s b)/\Hid (P s)/\Hid (b=false->∀x∈rs,br s x=s)) (fun _ wr=>2*Ko wr gk+bC wr (w.heap.size+1))
 case atStart=>exact⟨s0,true,a1,H0,aA (fun h=>by cases h)⟩
 case round =>
  obtain⟨s,b,HG,HS,HC⟩:=hrel;obtain⟨wo,a2⟩:∃wo:World,wo=wr:=⟨_,rfl⟩
  subst a2;have c1:=aQ HG.o.p;have f1:=AM wo _ 0 _ _ HG.o.p;have hd:=HG.o.hs;cases b
  ·go_wp2;go_end0
   exact⟨rfl,s,HS.o,HC.o (by trivial),HG.o.u,HG.o.l,HG.o.g⟩
  ·clear HC;obtain⟨wf,ag⟩:∃y,y=wo.setCell ⟨w.heap.size+1,0,none⟩ (.bool false):=⟨_,rfl⟩
   have HF:Hid (kP w wf gk n ck s false):=aA (by rw[ag];exact HG.o.Gf false);go_upto_region 5 with fail
   rw[<-ag];clear c1 f1 ag;go_wp2;go_loopw [14] (fun vi wr=>∃(s1:List Nat) (b1:Bool) (i:Nat),i<=rs.length/\vi=.int .i64 i/\Hid (kP w wr gk n ck s1 b1)/\Hid (P s1)/\Hid (Gm.kM s s1)/\Hid (b1=decide (s1≠s))/\Hid (s1=(rs.take i).foldl br s)) (fun vi _=>rs.length-(intOf vi).toNat)
   case atStart=>exact⟨s,false,0,Bb _,rfl,HF,HS,aA (Gm.kM.refl _),aA σ,aA rfl⟩
   case round =>
    obtain⟨s1,b1,i,hi,rfl,d,aa,ah,ab,ai⟩:=hrel;obtain⟨wi,a3⟩:∃wi:World,wi=wr:=⟨_,rfl⟩
    subst a3;by_cases j:i<rs.length
    ·obtain⟨g,o,rfl,aj,hc⟩:=HR.o ω;obtain⟨k0,⟨A',c',k1,ar,_,au⟩,k2⟩:=hc i j;have k0:=(wD d.o.g HB.o HK.o aj).trans k0;have k1:=(wD d.o.g HB.o HK.o aj).trans k1;have k2:=(wD d.o.g HB.o HK.o aj).trans k2;have a4:g<wi.heap.size:=by have:=d.o.g.size;have:=HB.o;omega
     have a5:=aA (fun(o:Obj)=>ax.o (wi.alloc o) s1 b1 rs[i] A' c' (d.o.alloc o) aa.o (AD j) (au.fp fun g o hg=>wD (d.o.alloc _).g HB.o HK.o hg) ar);have av:=aA (ap.o s1 rs[i]);have a6:=aA (HP.o s1 rs[i] (AD j) aa.o);have a9:Hid (rs.take (i+1)=rs.take i++[rs[i]]):=aA (AP j);clear hc au ar;generalize rs[i]=x at *;go_wp2_with fail
     refine(a5.o _).mono ?_;rintro _ w2 ⟨rfl,aw,ba⟩;have bb:=aA aw;clear aw ba k0 k1 k2 a4;go_wp2;go_roundw
     case rel=>exact⟨br s1 x,_,i+1,j,ν,bb,a6,aA (ah.o.trans av.o),aA (by rw[ab.o];exact Gm.zj ah.o av.o),aA (by rw[a9.o,Ei,<-ai.o];rfl)⟩
     case measure=>simp[intOf];omega
    ·obtain rfl:i=rs.length:=ω
     rw[Bp]at ai;go_wp2;go_roundw
     case rel=>exact⟨s1,b1,d,aa,aA fun e x hx=>by
      have e1:s1=s:=by
       have:=ab.o
       rw[e]at this;exact BX fun h=>by rw[AV h]at this;cases this
      have h2:=ai.o;rw[e1]at h2 ⊢;exact Gm.nC ap.o rs s h2.symm x hx⟩
     case measure =>
      have q1:=HG.o.u.xc;have q2:=d.o.u.xc;have q3:=N6 HG.o.p;have q4:=N6 d.o.p;rw[q1,q2,q3,q4];cases b1
      ·have e1:s1=s:=by
        have:=ab.o
        exact BX fun h=>by rw[AV h]at this;cases this
       rw[e1];simp
      ·have e1:s1≠s:=CN ab.o.symm
       have:=Gm.y8 ah.o (ay.o s1 aa.o) (fun e=>e1 e.symm)
       simp;omega
def yO (g h:Nat) (w:World):Type:={x:World // x.heap[g]?=w.heap[g]?/\x.heap[h]?=w.heap[h]?}
instance (g h:Nat) (w:World):Nonempty (yO g h w):=⟨⟨w,rfl,rfl⟩⟩
structure F5 (nt nn:Nat) (x:Gm.Rl):Prop where
 i:∀z∈x.r,Gm.In z
 t:∀z∈x.r,z<=31
 n:∀z∈x.r,z<0->-1-z<(nn:Int)
 l0:0<=x.l
 l1:x.l<(nn:Int)
 c:x.r.length<=6
theorem GC (hf:Gm.Fit G) (b:Gm.Ok G) {x:Gm.Rl} (hx:x∈G.rs):F5 G.ts.length G.ns.length x:=by
 have h1:=Gm.fT (b.rr x hx);have h2:=(Gm.fK G.ts).1 b.t;exact⟨(hf.r x hx).2.2,fun z hz=>by have:=(h1.2.2.2 z hz).1;omega,fun z hz h=>b.sin x hx z hz h,(b.iO x hx).1,(b.iO x hx).2,h1.1⟩
theorem PZ (w y:World) (gk n ck kp nt:Nat) (s:List Nat) (b:Bool) (nu:List Bool) (A1 A':Option Addr) (c1 c' B:Nat) (x:Gm.Rl) (h:kP w y gk n ck s b) (ag:y.heap[kp]?=some (.cells #[.slice A1 n c1,.slice (some ⟨gk,0,none⟩) n ck] 258 (0,0))) (h1:jk y y.heap.size A1 nu) (ac:nu.length=n) (ah:kp≠gk) (ai:kp<w.heap.size) (hr:gg y B A' x.r) (hB:B<=y.heap.size) (hU:Gm.nA s) (hx:F5 nt n x) :
  Calls prog 215 #[.agg #[.int .i64 x.l,.slice A' x.r.length c',.int .i64 x.p],.func (Fn.func 227) #[] #[.pointer (some ⟨w.heap.size+1,0,none⟩),.pointer (some ⟨w.heap.size,0,none⟩)],.pointer (some ⟨kp,0,none⟩)] y fun e w'=>e=.returned (.tuple #[])/\kP w w' gk n ck (Gm.gF nu s x) (b||decide (Gm.gF nu s x≠s))/\y.heap.size<=w'.heap.size:=by
 obtain⟨y1,g⟩:∃z,z=y.alloc (.cells #[.int .i64 x.l,.slice A' x.r.length c',.int .i64 x.p] 74):=⟨_,rfl⟩
 have j:β y y1:=by rw[g];exact(AB _ y).alloc (Af _) _
 have aj:y1.heap.size=y.heap.size+1:=by rw[g];simp
 have A:y1.heap[y.heap.size]?=some (.cells #[.int .i64 x.l,.slice A' x.r.length c',.int .i64 x.p] 74 (0,0)):=by rw[g];exact AI y _
 have aa:=aC j ag;have C:=h.below j;have hl:s.length=n:=h.l;obtain⟨l,r,p⟩:=x;obtain⟨m,rfl⟩:∃m:Nat,l=(m:Int):=⟨l.toNat,by have:=hx.l0;simp only at this;omega⟩
 simp only at hr A ⊢;have ak:m<n:=by have:=hx.l1;simp only at this;omega
 have HE:Hid (Gm.gF nu s ⟨(m:Int),r,p⟩=Gm.addN s m (Gm.jG nu s 0 r)):=aA (by unfold Gm.gF;simp);rw[HE.o];have hv:Gm.jG nu s 0 r<4294967296:=Gm.nA.jG hU δ hx.t;have al:=aA (fun(z:World) (hz:β y1 z)=>MF r 0 nu s A' A1 (some ⟨gk,0,none⟩) c' c1 ck B y.heap.size (gk+1) z ((hr.below j hB).below hz ω) ((h1.below j (Af _)).below hz ω) ((C.u.below hz C.u.lt).rd ω) (by have:=hz.size;omega) (by have:=hz.size;omega) (by have:=hz.size;have:=C.u.lt;omega) hx.i hx.t (fun z hz h=>by rw[hl];exact hx.n z hz h) (by rw[ac,hl]) hU δ (by have:=hx.c;simp only at this;omega));rw[ac,hl]at al;have av:=aA (fun(z:World) (hz:β y1 z)=>RN w z gk n ck s b m (Gm.jG nu s 0 r) ak hv hU (C.below hz));generalize Gm.jG nu s 0 r=v at *;have D:=aA aj;have am:=aA (Ca ah ai);have HG:=aA (Ca h.k h.hs);have q0:=fun z:yO y.heap.size kp y1=>AF z.1 _ 0 _ _ _ (z.2.1.trans A);have q1:=fun z:yO y.heap.size kp y1=>AF z.1 _ 1 _ _ _ (z.2.1.trans A);have q3:=fun z:yO y.heap.size kp y1=>AF z.1 _ 0 _ _ _ (z.2.2.trans aa);have q4:=fun z:yO y.heap.size kp y1=>AF z.1 _ 1 _ _ _ (z.2.2.trans aa);have ay:=aA A;have ao:=aA aa;clear hr h1 hx hU hv ak hl j C h ag hB ac aj HE A aa ah ai
 go_enter func215,ntmps215
 go_upto_region 1 with fail
 rw[<-g];clear g;refine CalmN.fk (fun x=>∃z:yO y.heap.size kp y1,x=z.1) (.one [0,1,2,3,4,5] 6 (.one [] 7 (.fin []))) ⟨⟨y1.drew,rfl,rfl⟩,rfl⟩ ?_;simp only[CalmN.fS,CalmN.fu,CalmN.fo,Aq,Ai,Am];repeat (go_big_quiet_step (fail))
 refine Ap ?_;have ab:Hid (β y1 y1.drew):=aA (aB (AB _ _) 1);obtain⟨yd,ap⟩:∃z,z=y1.drew:=⟨_,rfl⟩
 rw[<-ap]at ab ⊢;clear ap q0 q1 q3 q4;intro KK E;rw[Az ε];go_wp2_with fail
 refine(al.o _ ab.o).mono ?_;rintro _ w3 ⟨rfl,aq⟩;have f:=aA (ab.o.trans (aq.mono ab.o.size));clear aq;go_wp2_with fail
 have ad:∃z:yO y.heap.size kp y1,w3=z.1:=⟨⟨w3,f.o.block _ (by have:=D.o;omega),f.o.block _ (Ad.1 ao.o).1⟩,rfl⟩
 refine E _ _ ad _ ι ad ?_;clear E ad;refine Ap ?_;intro KK E;rw[Az ε];go_wp2_with fail
 refine(av.o _ f.o).mono ?_;rintro _ w4 ⟨rfl,ar,au,ae⟩;have aw:=aA ar;have ax:Hid (y.heap.size<=w4.heap.size):=aA (by rw[au];have:=f.o.size;have:=D.o;omega);have af:∃z:yO y.heap.size kp y1,w4=z.1:=⟨⟨w4,(ae _ (by have:=HG.o;have:=D.o;omega) (by have:=HG.o;have:=D.o;omega)).trans (f.o.block _ (by have:=D.o;omega)),(ae _ am.o.1 (by have:=am.o;omega)).trans (f.o.block _ (Ad.1 ao.o).1)⟩,rfl⟩
 clear ar au ae;go_wp2_with fail
 refine E _ _ af _ ι af ?_;clear E af;refine Ap ?_;go_wp2;go_end0
 exact⟨rfl,aw.o,ax.o⟩
theorem T9 {o:Oper} {a:Act} {K:Act->World->Prop} {Q:Exit->Act->World->Prop} (l c:Operand) (t:TypeId) (ac:o.op=Op.makeSlice t l c) (ht:prog.underlying t=some (.slice 104)) (n:Nat) (hl:a.eval l=.int .i64 n) (hc:a.eval c=.int .i64 n) (hn:n<=35184372088832) (hK:∀w',jc w' w.heap.size (List.replicate n 0)->β w w'->K (a.put o.dst (.slice (some ⟨w.heap.size,0,none⟩) n n)) w'):Oper.wp prog o a w K Q:=by
 obtain⟨i,hi,ad,ae,af⟩:=CF UM;obtain⟨w',ab,aa,b⟩:=run_make_full (P:=prog) w w.heap.size t 104 i (.int .u32 0) 1 ht hi ad ae .i64 .i64 n (by rw[af];omega) (by unfold maxLen;omega) (Af _)
 have hu:jc w' w.heap.size (List.replicate n 0):=by
  unfold jc;rw[Tf];refine OS (base:=w.heap.size) (n:=n) ?_;rw[Oo]
  have e:(madeCells (Value.int IntKind.u32 0).cells (n*1)).toList=List.replicate n (Value.int .u32 0):=by
   rw[DS];exact EL _ _
  rw[e]at aa;exact aa
 unfold Oper.wp;simp[execOp,ac,hl,hc,ab,Result.andThen];exact hK w' hu ⟨b.os,b.tape,b.output,b.size,fun k hk=>b.block k hk σ⟩
structure JK (w2:World) (n:Nat) (row:List Bool) (todo:List Nat) (wx:World) (x3 x5 x9 x10:Value) (g1 g5 c7:Nat):Prop where
 t:∀k∈todo,k=1\/k=5\/k=6\/k=7
 b:β w2 wx
 h1:1 ∉ todo->x5=.slice (some ⟨g1,0,none⟩) n n/\w2.heap.size<=g1/\fU wx g1 row
 h5:5 ∉ todo->x9=.slice (some ⟨g5,0,none⟩) n n/\w2.heap.size<=g5/\jc wx g5 (List.replicate n 0)
 h6:6 ∉ todo->1 ∉ todo/\5 ∉ todo/\x10=.agg #[.slice (some ⟨g1,0,none⟩) n n,.slice (some ⟨g5,0,none⟩) n n]
 h7:7 ∉ todo->x3=.pointer (some ⟨c7,0,none⟩)/\w2.heap.size<=c7/\wx.heap[c7]?=some (.cells #[.slice none 0 0,.slice none 0 0] 258 (0,0))
section
variable {w2 wx w':World} {n:Nat} {row:List Bool} {todo:List Nat} {x3 x5 x9 x10:Value} {g1 g5 c7:Nat}
theorem JK.Jc (h:JK w2 n row todo wx x3 x5 x9 x10 g1 g5 c7) (hm:1∈todo) (hb:β wx w') (hg:wx.heap.size<=g) (hu:fU w' g row):JK w2 n row (todo.erase 1) w' x3 (.slice (some ⟨g,0,none⟩) n n) x9 x10 g g5 c7 where
 t k hk:=h.t k (Bv hk)
 b:=h.b.trans (hb.mono h.b.size)
 h1 _:=⟨rfl,Ah h.b.size hg,hu⟩
 h5 q:=by obtain⟨a1,a2,a3⟩:=h.h5 (aE q δ);exact⟨a1,a2,aC hb a3⟩
 h6 q:=absurd hm (h.h6 (aE q δ)).1
 h7 q:=by obtain⟨a1,a2,a3⟩:=h.h7 (aE q δ);exact⟨a1,a2,aC hb a3⟩
theorem JK.uS (h:JK w2 n row todo wx x3 x5 x9 x10 g1 g5 c7) (hm:5∈todo) (hb:β wx w') (hu:jc w' wx.heap.size (List.replicate n 0)):JK w2 n row (todo.erase 5) w' x3 x5 (.slice (some ⟨wx.heap.size,0,none⟩) n n) x10 g1 wx.heap.size c7 where
 t k hk:=h.t k (Bv hk)
 b:=h.b.trans (hb.mono h.b.size)
 h1 q:=by obtain⟨a1,a2,a3⟩:=h.h1 (aE q δ);exact⟨a1,a2,aC hb a3⟩
 h5 _:=⟨rfl,h.b.size,hu⟩
 h6 q:=absurd hm (h.h6 (aE q δ)).2.1
 h7 q:=by obtain⟨a1,a2,a3⟩:=h.h7 (aE q δ);exact⟨a1,a2,aC hb a3⟩
theorem JK.uU (h:JK w2 n row todo wx x3 x5 x9 x10 g1 g5 c7):JK w2 n row (todo.erase 7) (wx.alloc (.cells #[.slice none 0 0,.slice none 0 0] 258)) (.pointer (some ⟨wx.heap.size,0,none⟩)) x5 x9 x10 g1 g5 wx.heap.size where
 t k hk:=h.t k (Bv hk)
 b:=h.b.alloc h.b.size _
 h1 q:=by obtain⟨a1,a2,a3⟩:=h.h1 (aE q δ);exact⟨a1,a2,aC ((AB _ wx).alloc (Af _) _) a3⟩
 h5 q:=by obtain⟨a1,a2,a3⟩:=h.h5 (aE q δ);exact⟨a1,a2,aC ((AB _ wx).alloc (Af _) _) a3⟩
 h6 q:=by obtain⟨a1,a2,a3⟩:=h.h6 (aE q δ);exact⟨fun m=>a1 (Bv m),fun m=>a2 (Bv m),a3⟩
 h7 _:=⟨rfl,h.b.size,AI wx _⟩
theorem JK.uT (h:JK w2 n row todo wx x3 x5 x9 x10 g1 g5 c7) (m1:1 ∉ todo) (m5:5 ∉ todo):JK w2 n row (todo.erase 6) wx x3 x5 x9 (.agg #[.slice (some ⟨g1,0,none⟩) n n,.slice (some ⟨g5,0,none⟩) n n]) g1 g5 c7 where
 t k hk:=h.t k (Bv hk)
 b:=h.b
 h1 q:=h.h1 m1
 h5 q:=h.h5 m5
 h6 q:=⟨fun m=>m1 (Bv m),fun m=>m5 (Bv m),rfl⟩
 h7 q:=h.h7 (aE q δ)
end
def VC (G:Gm.Gr) (w:World) (e:Ending) (w':World):Prop:=∃g1 g5,e=.returned (.agg #[.slice (some ⟨g1,0,none⟩) G.ns.length G.ns.length,.slice (some ⟨g5,0,none⟩) G.ns.length G.ns.length])/\w.heap.size<=g1/\w.heap.size<=g5/\fU w' g1 (Gm.gn false G.rs G.ns.length)/\jc w' g5 (Gm.fst G)/\β w w'
def yg (G:Gm.Gr) (s:List Nat):Prop:=s.length=G.ns.length/\Gm.nA s/\∀i t:Nat,(s.getD i 0).testBit t=true->Gm.Fs G t (i:Int)
theorem yg.start (G:Gm.Gr):yg G (List.replicate G.ns.length 0):=by
 refine⟨σ,fun i=>?_,fun i t h=>?_⟩
 ·rw[Aw,CO];split <;> simp
 ·rw[Gm.uH]at h;cases h
theorem yg.step (hf:Gm.Fit G) (aa:Gm.Ok G) {s:List Nat} {x:Gm.Rl} (hx:x∈G.rs) (h:yg G s):yg G (Gm.gF (Gm.gn false G.rs G.ns.length) s x) :=
 ⟨by unfold Gm.gF;rw[Gm.mu];exact h.1,h.2.1.addN _ (Gm.nA.jG h.2.1 δ (GC hf aa hx).t),fun i t hb=>Gm.ui aa.iO h.2.2 hx i t hb⟩
theorem OK (v:Value) (G:Gm.Gr) (B:Nat) (w:World) (hg:aT w B v G) (hf:Gm.Fit G) (af:Gm.Ok G) (hB:B<=w.heap.size) :
  Calls prog 188 #[v] w (VC G w):=by
 have ag:=aA (fun(x:World) (h:β w x)=>(show Calls _ _ _ _ (wI _ _) from(OC v G B x (hg.below h hB) hf (Ah hB h.size)).mono fun e w' k=>k.1 (Gm.fq.2 af)));obtain⟨AT,cT,AN,cN,AR,cR,rfl,_,⟨ba,bb⟩,_,_,_,hR⟩:=hg;have z:=aA ((One.start w #[.slice AT G.ts.length cT,.slice AN G.ns.length cN,.slice AR G.rs.length cR,.int .i64 G.st]).alloc (.cells #[.slice none 0 0,.slice none 0 0] 258));have az:=aA hR;have HB:=aA hB;have am:=aA hf;have E:=aA af;have HN:Hid (G.ns.length<=40):=aA (by have:=(Gm.fF G).1 E.o.n;omega);have ah:Hid (G.rs.length<=40):=aA E.o.kL;have a0:=HN.o;have a1:(G.ns.length:Int)<=9223372036854775807:=ω
 obtain⟨w2,F⟩:∃y,y=(w.alloc (.cells #[.slice AT G.ts.length cT,.slice AN G.ns.length cN,.slice AR G.rs.length cR,.int .i64 G.st] 26)).alloc (.cells #[.slice none 0 0,.slice none 0 0] 258):=⟨_,rfl⟩
 rw[<-F]at z;have a2:Hid (w2.heap[w.heap.size+1]?=some (.cells #[.slice none 0 0,.slice none 0 0] 258 (0,0))):=aA (by rw[F];have:=AI (w.alloc (.cells #[.slice AT G.ts.length cT,.slice AN G.ns.length cN,.slice AR G.rs.length cR,.int .i64 G.st] 26)) (.cells #[.slice none 0 0,.slice none 0 0] 258);simpa using this);have ao:w2.heap.size=w.heap.size+2:=by rw[F];simp
 have H:=aA ao;have ai:Hid (β w w2):=aA z.o.below;have r:w.heap.size<w2.heap.size:=ω
 obtain⟨T,hT⟩:∃x,x=Gm.gn false G.rs G.ns.length:=⟨_,rfl⟩
 have ap:Hid (T.length=G.ns.length):=aA (by rw[hT,Gm.iJ]);rw[<-hT]at ag;have HT:=aA hT;have H3:=aA (fun(x:World) (h:β w2 x)=>ag.o x (ai.o.trans (h.mono (Cx r))));have q0:=fun y:Calm.On w2.heap.size w2=>(y.2.cell (p:=⟨w.heap.size,0,none⟩) r).trans (z.o.c 0 _ rfl);have q1:=fun y:Calm.On w2.heap.size w2=>(y.2.cell (p:=⟨w.heap.size,1,none⟩) r).trans (z.o.c 1 _ rfl);have q2:=fun y:Calm.On w2.heap.size w2=>(y.2.cell (p:=⟨w.heap.size,2,none⟩) r).trans (z.o.c 2 _ rfl);have q3:=fun y:Calm.On w2.heap.size w2=>(y.2.cell (p:=⟨w.heap.size,3,none⟩) r).trans (z.o.c 3 _ rfl);clear hf af hR hB hT ao ag
 go_enter func188,ntmps188
 go_upto_region 1 with fail
 rw[<-F];clear F
 refine CalmN.mT (γ w2) [0,2,3,4] [1,5,6,7] [(6,1),(6,5)] (.one [] 8 (.fin []))
  (fun todo a wx=>∃x3 x5 x9 x10 g1 g5 c7,a = {tmps:=#[.agg #[.slice AT G.ts.length cT,.slice AN G.ns.length cN,.slice AR G.rs.length cR,.int .i64 G.st],.pointer (some ⟨w.heap.size,0,none⟩),.pointer (some ⟨w.heap.size+1,0,none⟩),x3,.agg #[.slice AT G.ts.length cT,.slice AN G.ns.length cN,.slice AR G.rs.length cR,.int .i64 G.st],x5,.pointer (some ⟨w.heap.size,1,none⟩),.slice AN G.ns.length cN,.int .i64 G.ns.length,x9,x10,undef,undef,undef,undef,undef,undef,undef],defers:=[]}/\JK w2 G.ns.length T todo wx x3 x5 x9 x10 g1 g5 c7)
  κ κ (fun _ _ d _ _ h=>by cases d <;> exact h) ⟨⟨w2.drew,aB (AB _ _) 1⟩,rfl⟩ ?_ ?_ ?_
 ·simp only[CalmN.fo,Aq,Ai,Am];repeat (go_big_quiet_step (fail))
  refine Ap ?_;exact⟨undef,undef,undef,undef,0,0,0,rfl,⟨σ,aB (AB _ _) 1,fun h=>absurd σ h,fun h=>absurd σ h,fun h=>absurd σ h,fun h=>absurd σ h⟩⟩
 ·intro todo k a wx hk hD hJ hS;obtain⟨x3,x5,x9,x10,g1,g5,c7,rfl,hJ⟩:=hJ;have HJ:=aA hJ;have ac:=hJ.t k hk;have HK:=aA hk;have HD:=aA hD;clear hJ hS hk hD q0 q1 q2 q3;rcases ac with rfl|rfl|rfl|rfl
  ·simp only[CalmN.fu,Aq,Ai,Am];intro KK m;rw[Az ε];go_wp2_with fail
   refine(H3.o wx HJ.o.b).mono ?_;rintro _ w' ⟨g,rfl,hg,hu,hb⟩;have hj:=HJ.o.Jc HK.o hb hg hu;go_wp2_with fail
   rw[ap.o];exact m _ _ ⟨⟨w',hj.b⟩,rfl⟩ _ ι ⟨⟨w',hj.b⟩,rfl⟩ ⟨x3,_,x9,x10,_,g5,c7,rfl,hj⟩
  ·simp only[CalmN.fu,Aq,Ai,Am];intro KK m;rw[Az ε];refine T9 (.tmp 8) (.tmp 8) _ rfl underlying102 G.ns.length rfl rfl ω ?_;intro w' hu hb;have hj:=HJ.o.uS HK.o hb hu;exact m _ _ ⟨⟨w',hj.b⟩,rfl⟩ _ ι ⟨⟨w',hj.b⟩,rfl⟩ ⟨x3,x5,_,x10,g1,_,c7,rfl,hj⟩
  ·have m1:=HD.o (6,1) σ rfl;have m5:=HD.o (6,5) σ rfl;obtain⟨rfl,_⟩:=HJ.o.h1 m1;obtain⟨rfl,_⟩:=HJ.o.h5 m5;have hj:=HJ.o.uT m1 m5;simp only[CalmN.fu,Aq,Ai,Am];intro KK m;rw[Az ε];go_wp2_with fail
   exact m _ _ ⟨⟨_,hj.b⟩,rfl⟩ _ ι ⟨⟨_,hj.b⟩,rfl⟩ ⟨x3,_,_,_,g1,g5,c7,rfl,hj⟩
  ·simp only[CalmN.fu,Aq,Ai,Am];intro KK m;rw[Az ε];have hj:=HJ.o.uU;go_wp2_with fail
   exact m _ _ ⟨⟨_,hj.b⟩,rfl⟩ _ ι ⟨⟨_,hj.b⟩,rfl⟩ ⟨_,x5,x9,x10,g1,g5,_,rfl,hj⟩
 ·intro a wx hJ hS;obtain⟨x3,x5,x9,x10,g1,g5,c7,rfl,hJ⟩:=hJ;obtain⟨rfl,aq,i⟩:=hJ.h1 σ;obtain⟨rfl,aj,f⟩:=hJ.h5 σ;obtain⟨_,_,rfl⟩:=hJ.h6 σ;obtain⟨rfl,ak,j⟩:=hJ.h7 σ;have ar:=hJ.b;clear hS q0 q1 q2 q3 hJ H3;have l7:=(Ad.1 j).1;have f7:=AM wx _ 0 _ _ j;have f8:=AM wx _ 1 _ _ j;have k7:=AF wx _ 0 _ _ _ j;have k8:=AF wx _ 1 _ _ _ j;simp only[CalmN.fS,CalmN.fu,CalmN.fo,Aq,Ai,Am];repeat (go_big_quiet_step (fail))
  refine Ap ?_;intro KK m;rw[Az ε];go_wp2_with fail
  obtain⟨wy,A⟩:∃y,y=(wx.setCell ⟨c7,0,none⟩ (.slice (some ⟨g1,0,none⟩) G.ns.length G.ns.length)).setCell ⟨c7,1,none⟩ (.slice (some ⟨g5,0,none⟩) G.ns.length G.ns.length):=⟨_,rfl⟩
  have u:β w2 wy:=by rw[A];exact(ar.setCell (p:=⟨c7,0,none⟩) ak _).setCell (p:=⟨c7,1,none⟩) ak _
  have ab:g1≠c7:=fun e=>by subst e;unfold fU at i;rw[j]at i;injection i with i;injection i with _ i;cases i
  have l:g5≠c7:=fun e=>by subst e;unfold jc iP at f;rw[j]at f;injection f with f;injection f with _ f;cases f
  have aa:g1≠g5:=fun e=>by subst e;unfold fU at i;unfold jc iP at f;rw[i]at f;injection f with f;injection f with _ f;cases f
  have I:fU wy g1 T:=by rw[A];exact fU.jv (fU.jv i ab _) ab _
  have au:jc wy g5 (List.replicate G.ns.length 0):=by rw[A];exact jc.jv (jc.jv f l _) l _
  have J:wy.heap[c7]?=some (.cells #[.slice (some ⟨g1,0,none⟩) G.ns.length G.ns.length,.slice (some ⟨g5,0,none⟩) G.ns.length G.ns.length] 258 (0,0)):=by rw[A];exact Ba _ c7 1 _ _ _ (Ba wx c7 0 _ _ _ j)
  rw[<-A];refine m _ _ ⟨⟨wy,u⟩,rfl⟩ _ ι ⟨⟨wy,u⟩,rfl⟩ ?_;clear m k7 k8 f7 f8 l7 A i f j ar;refine Ap ?_;have u1:=AF wy _ 1 _ _ _ J;have u2:=(u.cell (p:=⟨w.heap.size,2,none⟩) r).trans (z.o.c 2 _ rfl);have lw:w.heap.size<wy.heap.size:=Aj r u.size;have l7:=(Ad.1 J).1;have ad:β w wy:=ai.o.trans (u.mono (Cx r));have av:qL wy B AR G.rs:=az.o.fp fun g o hg=>ad.cell (p:=⟨g,o,none⟩) (Aj hg HB.o)
  have aw:=Ru 215 #[.pointer (some ⟨c7,0,none⟩)] (yE func215 κ κ) G.rs AR cR G.ns.length B g5 G.ns.length wy (List.replicate G.ns.length 0) (yg G) (Gm.gF T)
   av (Ah HB.o ad.size) (by have:=HB.o;omega) au σ (yg.start G) (by have:=ah.o;omega) (fun s x=>Gm.kM.addN _ _ _) (fun s x hx h=>by rw[HT.o];exact h.step am.o E.o hx) (fun s h=>h.2.1)
   (fun y s b x A' c' hG hP hx hr _=>by
    have a3:=(hG.g.block c7 l7 (fun e=>by injection e with e;exact l e.symm)).trans J;have h1:fU y g1 T:=(hG.g.block g1 I.lt (fun e=>by injection e with e;exact aa e)).trans I;exact PZ wy y g5 G.ns.length G.ns.length c7 G.ts.length s b T (some ⟨g1,0,none⟩) A' G.ns.length c' B x hG a3 (h1.p7 h1.lt) ap.o (fun e=>l e.symm) l7 hr (Ah HB.o (Ah ad.size hG.g.size)) hP.2.1 (GC am.o E.o hx))
  have ax:=aA aw
  have HX:Hid (∀(y:World) (s:List Nat),yg G s->(∀x∈G.rs,Gm.gF T s x=s)->jc y g5 s->wy.grownBy y (some g5)->jc y g5 (Gm.fst G)/\fU y g1 T/\y.heap[c7]?=some (.cells #[.slice (some ⟨g1,0,none⟩) G.ns.length G.ns.length,.slice (some ⟨g5,0,none⟩) G.ns.length G.ns.length] 258 (0,0))/\β w2 y):=aA (fun y s hP hc hu hg=>by
   rw[HT.o]at hc;rw[<-Gm.xf E.o.iO hP.1 hP.2.2 hc];exact⟨hu,(hg.block g1 I.lt (fun e=>by injection e with e;exact aa e)).trans I,(hg.block c7 l7 (fun e=>by injection e with e;exact l e.symm)).trans J,aM u hg aj u.size⟩)
  have C:=aA (Ca aq aj);clear aw I au J av ad ab l aa aq aj ak u a0;go_wp2_with fail
  refine ax.o.mono ?_;rintro _ w4 ⟨rfl,s,hP,hc,hu,a4,ay⟩;obtain⟨f,i,j,al⟩:=HX.o w4 s hP hc hu ay;have r0:=AF w4 _ 0 _ _ _ j;have r1:=AF w4 _ 1 _ _ _ j;have l74:=(Ad.1 j).1;have D:=(al.block (w.heap.size+1) (by have:=H.o;omega)).trans a2.o;have g0:=AF w4 _ 0 _ _ _ D;have g1':=AF w4 _ 1 _ _ _ D;have f0:=AM w4 _ 0 _ _ D;have f1:=AM w4 _ 1 _ _ D;have l4:=(Ad.1 D).1;have a5:=aA f;have a6:=aA i;have a9:=aA al;clear hP hc hu a4 ay f i j al D HX ax u1 u2 lw l7;go_wp2_with fail
  refine B3 (v:=.agg #[.slice (some ⟨g1,0,none⟩) G.ns.length G.ns.length,.slice (some ⟨g5,0,none⟩) G.ns.length G.ns.length]) (by simp[results,results188,go_sem,g0,g1']) rfl ?_;have ae:∀g,w2.heap.size<=g->g≠w.heap.size+1:=fun g h=>by have:=H.o;omega
  refine⟨g1,g5,rfl,by have:=C.o;have:=H.o;omega,by have:=C.o;have:=H.o;omega,?_,?_,?_⟩
  ·rw[<-HT.o];exact fU.jv (fU.jv a6.o (ae _ C.o.1) _) (ae _ C.o.1) _
  ·exact jc.jv (jc.jv a5.o (ae _ C.o.2) _) (ae _ C.o.2) _
  ·exact((ai.o.trans (a9.o.mono (by have:=H.o;omega))).setCell (p:=⟨w.heap.size+1,0,none⟩) σ _).setCell (p:=⟨w.heap.size+1,1,none⟩) σ _
theorem R4 {p:Int->Bool} (h:k<l.length):(l.take (k+1)).any p=((l.take k).any p||p l[k]):=by
 rw[AP h,List.any_append];simp
theorem Vp {p:Int->Bool} (h:k<l.length) (hp:p l[k]=true):l.any p=true:=ER.2 ⟨_,AD h,hp⟩
theorem OF (fb:Nat) (cp:Value) (hE:∀args w,Sem.run prog (callFunc fb args) w=.ok (.enter fb args) w) (l:List Int) (p:Int->Bool) (A:Option Addr) (c B:Nat) (w:World) (hr:gg w B A l) (hB:B<=w.heap.size) (hl:l.length<=9223372036854775807) (hp:∀y z,β w y->z∈l->Calls prog fb #[.int .i64 z,cp] y fun e w'=>e=.returned (.bool (p z))/\β y w') :
  Calls prog 107 #[.slice A l.length c,.func (Fn.func fb) #[] #[cp]] w fun e w'=>(∃k:Int,e=.returned (.int .i64 k)/\decide (0<=k)=l.any p)/\β w w':=by
 have HR:=aA hr;have HB:=aA hB;have HP:=aA hp;have ac:(l.length:Int)<=9223372036854775807:=ω
 clear hr hp hB hl
 go_enter func107,ntmps107
 go_wp2;go_loopw [8] (fun vi wr=>∃k:Nat,k<=l.length/\vi=.int .i64 k/\Hid ((l.take k).any p=false)/\Hid (β w wr)) (fun vi _=>l.length-(intOf vi).toNat)
 case atStart=>exact⟨0,Bb _,rfl,aA σ,aA (AB _ _)⟩
 case round =>
  obtain⟨k,hk,rfl,HK,HW⟩:=hrel;by_cases b:k<l.length
  ·obtain⟨g,o,rfl,ad,hc⟩:=HR.o ω;have k0:=(HW.o.cell (p:=⟨g,o+k,none⟩) (Aj ad HB.o)).trans (hc k b);rw[L.fy b]at k0;have aa:=aA (HP.o wr _ HW.o (AD b));have HN:=aA (R4 (p:=p) b);have HY:=aA (fun h=>Vp (p:=p) b h);clear hc;generalize l[k]=z at *;cases hz:p z
   ·rw[hz]at aa HN;have HX:=aA (HN.o.trans (by rw[HK.o]));clear hz HN HY;go_wp2_with fail
    refine aa.o.mono ?_;rintro _ w2 ⟨rfl,hb⟩;have ab:=aA (HW.o.trans (hb.mono HW.o.size));clear hb;go_wp2;go_roundw
    case rel=>exact⟨k+1,b,ν,HX,ab⟩
    case measure=>simp[intOf];omega
   ·rw[hz]at aa;have HX:=aA (HY.o hz);clear hz HN HY;go_wp2_with fail
    refine aa.o.mono ?_;rintro _ w2 ⟨rfl,hb⟩;have ab:=aA (HW.o.trans (hb.mono HW.o.size));clear hb;go_wp2;go_ret
    exact⟨⟨_,rfl,by rw[HX.o,AV ω]⟩,ab.o⟩
  ·obtain rfl:k=l.length:=ω
   rw[Bp]at HK;go_wp2;go_ret
   exact⟨⟨_,rfl,by rw[HK.o];rfl⟩,HW.o⟩
theorem Kv (fb:Nat) (cp:Value) (hE:∀args w,Sem.run prog (callFunc fb args) w=.ok (.enter fb args) w) (l:List Int) (p:Int->Bool) (A:Option Addr) (c B:Nat) (w:World) (hr:gg w B A l) (hB:B<=w.heap.size) (hl:l.length<=9223372036854775807) (hp:∀y z,β w y->z∈l->Calls prog fb #[.int .i64 z,cp] y fun e w'=>e=.returned (.bool (p z))/\β y w') :
  Calls prog 72 #[.slice A l.length c,.func (Fn.func fb) #[] #[cp]] w fun e w'=>e=.returned (.bool (l.any p))/\β w w':=by
 have H:=aA (OF fb cp hE l p A c B w hr hB hl hp);clear hr hB hl hp
 go_enter func72,ntmps72
 go_wp2_with fail
 refine H.o.mono ?_;rintro _ w2 ⟨⟨k,rfl,hk⟩,hb⟩;have HK:=aA hk;have HB:=aA hb;clear hk hb;go_wp2;go_ret
 exact⟨aD HK.o,HB.o⟩
noncomputable def Gm.rf (G:Gm.Gr) (l:List Int) (rest:Nat):Nat:=if Gm.right G=true/\l.all (Gm.has G)=true then Gm.jG (Gm.gn false G.rs G.ns.length) (Gm.fst G) rest l else 0
theorem Gm.sb (aa:Gm.Ok G):Gm.nA (Gm.fst G):=fun i=>by
 have ab:=((Gm.fK G.ts).1 aa.t).1;refine ES (n:=32) _ fun t ht=>?_;cases hb:((Gm.fst G).getD i 0).testBit t
 ·rfl
 ·have:=Gm.yj aa ((Gm.kV aa.iO i t).1 hb)
  omega
theorem Gm.uo (aa:Gm.Ok G) (h:Gm.has G z=true):z<=31/\(z<0->-1-z<(G.ns.length:Int))/\z<G.ts.length:=by
 have ab:=((Gm.fK G.ts).1 aa.t).1;unfold Gm.has at h;split at h
 ·have:=CN h
  exact⟨ω,fun h=>by omega,this⟩
 ·have:=CN h
  exact⟨ω,fun _=>this,ω⟩
theorem QA (G:Gm.Gr) (B:Nat) (z:Int) (hz:Gm.In z) (a:Array Value) (w y:World) (hg:aT y B (.agg a) G) (ho:One w a y) :
  Calls prog 187 #[.int .i64 z,.pointer (some ⟨w.heap.size,0,none⟩)] y fun e w'=>e=.returned (.bool (!Gm.has G z))/\β y w':=by
 have H:=aA (JQ (.agg a) G B z hz y hg);obtain⟨AT,cT,AN,cN,AR,cR,hv,_⟩:=hg;injection hv with hv;subst hv;have q0:=ho.c 0 _ rfl;have q1:=ho.c 1 _ rfl;have q2:=ho.c 2 _ rfl;have q3:=ho.c 3 _ rfl;have hs:w.heap.size<y.heap.size:=ho.size;clear ho
 go_enter func187,ntmps187
 go_wp2_with fail
 refine H.o.mono ?_;rintro _ w2 ⟨rfl,hb⟩;have HB:=aA hb;clear hb;go_wp2;go_ret
 exact⟨rfl,HB.o⟩
theorem TN (v:Value) (G:Gm.Gr) (l:List Int) (rest:Nat) (A:Option Addr) (c B:Nat) (w:World) (hg:aT w B v G) (hf:Gm.Fit G) (hB:B<=w.heap.size) (hr:gg w B A l) (g:∀z∈l,Gm.In z) (hl:l.length<=9223372036854775807) (aa:rest<4294967296) :
  Calls prog 147 #[v,.slice A l.length c,.int .u32 rest] w fun e w'=>e=.returned (.int .u32 (Gm.rf G l rest))/\β w w':=by
 have H1:=aA (fun(x:World) (h:β w x)=>zT v G B x (hg.below h hB) hf (Ah hB h.size));have H2:=aA (fun(q:Gm.right G=true) (x:World) (h:β w x)=>OK v G B x (hg.below h hB) hf (Gm.fq.1 q) (Ah hB h.size));have ah:=aA (fun(x:World) (h:β w x)=>hg.below h hB);have al:=aA hg;obtain⟨AT,cT,AN,cN,AR,cR,rfl,_⟩:=hg;have f:=aA (One.start w #[.slice AT G.ts.length cT,.slice AN G.ns.length cN,.slice AR G.rs.length cR,.int .i64 G.st])
 have H3:=aA (fun(x:World) (h:One w #[.slice AT G.ts.length cT,.slice AN G.ns.length cN,.slice AR G.rs.length cR,.int .i64 G.st] x)=>Kv 187 (.pointer (some ⟨w.heap.size,0,none⟩)) (yE func187 κ κ) l (fun z=>!Gm.has G z) A c B x (hr.below h.below hB) (Ah hB h.below.size) hl
  (fun y z hy hz=>QA G B z (g z hz) _ w y (ah.o y (h.on hy).below) (h.on hy)))
 have ad:l.any (fun z=>!Gm.has G z) = !l.all (Gm.has G):=by rw[E4];simp
 rw[ad]at H3;have HE:Hid (Gm.rf G l rest=if Gm.right G=true/\l.all (Gm.has G)=true then Gm.jG (Gm.gn false G.rs G.ns.length) (Gm.fst G) rest l else 0):=aA rfl;generalize ai:Gm.rf G l rest=r0 at *;clear ai ad;cases q:Gm.right G
 ·rw[q]at H1;have HX:Hid (r0=0):=aA (by rw[HE.o,q];rfl);clear q H2 H3 hr hf g hl aa HE
  go_enter func147,ntmps147
  go_wp2_with fail
  refine(H1.o _ f.o.below).mono ?_;rintro _ w2 ⟨rfl,hb⟩;have d:=aA (f.o.on hb);clear hb;go_wp2;go_ret
  exact⟨by rw[HX.o];rfl,d.o.below⟩
 ·have H2:=aA (H2.o q);rw[q]at H1;cases ha:l.all (Gm.has G)
  ·rw[ha]at H3;have HX:Hid (r0=0):=aA (by rw[HE.o,ha];simp);clear q H2 hr hf g hl aa HE ha
   go_enter func147,ntmps147
   go_wp2_with fail
   refine(H1.o _ f.o.below).mono ?_;rintro _ w2 ⟨rfl,hb⟩;have d:=aA (f.o.on hb);clear hb;go_wp2_with fail
   refine(H3.o _ d.o).mono ?_;rintro _ w3 ⟨rfl,hb⟩;have b:=aA (d.o.on hb);clear hb;go_wp2;go_ret
   exact⟨by rw[HX.o];rfl,b.o.below⟩
  ·rw[ha]at H3;have ab:=Gm.fq.1 q;have HX:Hid (r0=Gm.jG (Gm.gn false G.rs G.ns.length) (Gm.fst G) rest l):=aA (by rw[HE.o,Az ⟨q,ha⟩]);have ac:=fun z hz=>Gm.uo ab (B6.1 ha z hz);have ae:=aA (fun(x:World) (h:β w x) (g1 g5:Nat) (i:fU x g1 (Gm.gn false G.rs G.ns.length)) (j:jc x g5 (Gm.fst G))=>MF l rest (Gm.gn false G.rs G.ns.length) (Gm.fst G) A (some ⟨g1,0,none⟩) (some ⟨g5,0,none⟩) c G.ns.length G.ns.length B x.heap.size x.heap.size x (hr.below h hB) (i.p7 i.lt) (j.rd j.lt) (Ah hB h.size) (Af _) (Af _) g (fun z hz=>(ac z hz).1) (fun z hz=>by rw[Gm.mf];exact(ac z hz).2.1) (by rw[Gm.mf,Gm.iJ]) (Gm.sb ab) aa hl);rw[Gm.mf,Gm.iJ]at ae;clear q hr hf g hl aa HE ha ac ab;generalize Gm.jG (Gm.gn false G.rs G.ns.length) (Gm.fst G) rest l=vv at *
   go_enter func147,ntmps147
   go_wp2_with fail
   refine(H1.o _ f.o.below).mono ?_;rintro _ w2 ⟨rfl,hb⟩;have d:=aA (f.o.on hb);clear hb;go_wp2_with fail
   refine(H3.o _ d.o).mono ?_;rintro _ w3 ⟨rfl,hb⟩;have b:=aA (d.o.on hb);have q0:=b.o.c 0 _ rfl;have q1:=b.o.c 1 _ rfl;have q2:=b.o.c 2 _ rfl;have q3:=b.o.c 3 _ rfl;have am:w.heap.size<w3.heap.size:=b.o.size;clear hb;go_wp2_with fail
   refine(H2.o _ b.o.below).mono ?_;rintro _ w4 ⟨g1,g5,rfl,h1,h5,i,j,af⟩;have ag:=aA (b.o.on af);have aj:=aA (ae.o w4 ag.o.below g1 g5 i j);clear i j af h1 h5;go_wp2_with fail
   refine aj.o.mono ?_;rintro _ w5 ⟨rfl,hb⟩;have ak:=aA (ag.o.on hb);clear hb;go_wp2;go_ret
   exact⟨by rw[HX.o];rfl,ak.o.below⟩
namespace Gm
theorem oc (a n:Nat):(a &&& 2 ^ n≠0)↔a.testBit n=true:=by
 constructor
 ·intro h;cases hb:a.testBit n
  ·refine absurd (C9 fun t=>?_) h;rw[Ec,CI,Dl];by_cases e:n=t
   ·subst e;rw[hb];rfl
   ·rw[AU e,EN]
  ·rfl
 ·intro h e
  have:=congrArg (fun z=>z.testBit n) e
  simp only[Ec,CI,Dl,h]at this;simp at this
theorem uK {G:Gr} (l:List Int) {rest:Nat} (hr:rest<4294967296):rf G l rest<4294967296:=by
 unfold rf;split
 ·rename_i h
  have aa:=fq.1 h.1;exact nA.jG (sb aa) hr fun z hz=>(uo aa (B6.1 h.2 z hz)).1
 ·decide
end Gm
theorem gg.fY {w:World} {B c:Nat} {A:Option Addr} {l:List Int} (h:gg w B A l) (hc:l.length<=c) (k:Nat):gg w B (fY A c k) (l.drop k):=by
 intro hn;rw[Bt]at hn;obtain⟨g,o,rfl,hg,aa⟩:=h ω;refine⟨g,o+k,?_,hg,fun j hj=>?_⟩
 ·have e:((⟨g,o,none⟩:Addr).add k)=⟨g,o+k,none⟩:=by unfold Addr.add;by_cases h0:k=0 <;> simp[h0]
  unfold Go.Proofs.YtjjbaehamplnaaaGreat.fY;rw[AJ ω,DH,e]
 ·rw[Bt]at hj;rw[show o+k+j=o+(k+j) by omega,aa (k+j) ω,L.fy (by omega:k+j<l.length),L.fy (by rw[Bt];exact hj),Dy]
theorem Hm (w:World) (A:Option Addr) (c n k:Nat) (hk:k<=n):(Instr.sliceAt 51 (.slice A n c) (some (.int .i64 k)) none none).run prog w=.ok (.slice (fY A c k) (n-k) (c-k)) w:=by
 rw[DU _ _ _ _ _ _ κ,run_slice_l _ _ _ _ _ κ .i64 (k:Int) ω ω];have hs:(sizeOf (prog.elem 51)).run prog w=.ok 1 w:=κ
 rw[hs];simp[Result.andThen,sliced,fY]
theorem QD (w:World) (A:Option Addr) (c n k:Nat) (hk:k<=c):(Instr.sliceAt 51 (.slice A n c) none (some (.int .i64 k)) none).run prog w=.ok (.slice A k c) w:=by
 rw[DU _ _ _ _ _ _ κ,run_slice_h _ _ _ _ _ κ .i64 (k:Int) ω ω];have hs:(sizeOf (prog.elem 51)).run prog w=.ok 1 w:=κ
 rw[hs]
 have e:∀A:Option Addr,A.map (fun x=>x.add 0)=A:=fun A=>by
  cases A with
  | none=>rfl
  | some x=>simp[Addr.add]
 simp[Result.andThen,sliced,e]
namespace Lk
open Gm
noncomputable def Ku (G:Gr) (r:List Int) (d:Nat):Nat×Bool:=(rf G (r.drop (d+1)) (2 ^ G.ts.length) &&& (4294967295-2 ^ G.ts.length),decide (rf G (r.drop (d+1)) (2 ^ G.ts.length) &&& 2 ^ G.ts.length≠0))
noncomputable def kB (G:Gr) (r:List Int) (d:Nat):Nat×Bool:=if r.getD d 0<0 then Ku G r d else(0,false)
noncomputable def fL (G:Gr) (r:List Int):List (Nat×Bool):=(List.range r.length).map (kB G r)
noncomputable def fO (G:Gr):List (List (Nat×Bool)):=G.rs.map fun x=>fL G x.r
theorem nS (G:Gr) (r:List Int):(fL G r).length=r.length:=by simp[fL]
theorem nQ (G:Gr):(fO G).length=G.rs.length:=by simp[fO]
theorem qi {G:Gr} (h:d<(fL G r).length):(fL G r)[d]=kB G r d:=by simp[fL]
theorem qh {G:Gr} (h:k<(fO G).length) (h2:k<G.rs.length):(fO G)[k]=fL G (G.rs[k]).r:=by simp[fO]
theorem xP (G:Gr) (r:List Int) (d:Nat):(kB G r d).1<4294967296:=by
 unfold kB;split
 ·exact Nat.lt_of_le_of_lt Nat.and_le_right (Nat.lt_of_le_of_lt (Nat.sub_le _ _) δ)
 ·decide
theorem Sz {a t:Nat} (ha:a<4294967296) (hn:n<32):(a &&& (4294967295-2 ^ n)).testBit t=(a.testBit t&&decide (t≠n)):=by
 rw[Ec];rcases BM t 32 with ht|ht
 ·have h2:2 ^ n<2 ^ 32:=Nat.pow_lt_pow_right δ hn
  have:=Nat.testBit_two_pow_sub_succ (x:=2 ^ n) (n:=32) h2 t
  rw[show 2 ^ 32-(2 ^ n+1)=4294967295-2 ^ n by omega]at this;rw[this,AV ht,Cw,CI];by_cases e:n=t
  ·subst e;simp
  ·have e2:¬t=n:=fun q=>e q.symm;simp[e,e2]
 ·have:a<2 ^ t:=Aj ha (by have:=Co (n:=2) δ ht;omega)
  rw[DZ this];simp
theorem Sp {G:Gr} (aa:Ok G) {x:Rl} (hx:x∈G.rs) (k rest:Nat):rf G (x.r.drop k) rest=jG (gn false G.rs G.ns.length) (fst G) rest (x.r.drop k):=by
 have ha:(x.r.drop k).all (has G)=true:=B6.2 fun z hz=>by
  have:=(fT (aa.rr x hx)).2.2.2 z (C7 hz)
  exact iN.2 ⟨this.1,this.2.1⟩
 unfold rf;rw[Az ⟨fq.2 aa,ha⟩]
theorem GG {G:Gr} (b:Ok G) (ht:G.ts.length<=24) {x:Rl} (hx:x∈G.rs) (hd:d<x.r.length) (h0:x.r[d]<0) (v:Nat):G8 (kB G x.r d) v=sA G v (x.r.drop (d+1)):=by
 have hg:x.r.getD d 0=x.r[d]:=by rw[Aw,AH hd];rfl
 have aa:∀z∈x.r.drop (d+1),z<G.ts.length:=fun z hz=>((fT (b.rr x hx)).2.2.2 z (C7 hz)).1;have hr:(2:Nat) ^ G.ts.length<4294967296:=by have:=Co (n:=2) δ ht;omega
 have hs:=uK (G:=G) (x.r.drop (d+1)) hr
 have hn:∀t:Nat,(rf G (x.r.drop (d+1)) (2 ^ G.ts.length)).testBit t=true↔Bg G t (x.r.drop (d+1))\/Nu G (x.r.drop (d+1))/\G.ts.length=t:=fun t=>by
  rw[Sp b hx,vQ b.iO,CI,Bj]
 have ab:(rf G (x.r.drop (d+1)) (2 ^ G.ts.length) &&& 2 ^ G.ts.length≠0)↔Nu G (x.r.drop (d+1)):=by
  rw[oc,hn]
  constructor
  ·rintro(h|h)
   ·have:=G7 b aa h;omega
   ·exact h.1
  ·exact fun h=>.inr ⟨h,rfl⟩
 have hb:∀t:Nat,(rf G (x.r.drop (d+1)) (2 ^ G.ts.length) &&& (4294967295-2 ^ G.ts.length)).testBit t=true↔Bg G t (x.r.drop (d+1)):=fun t=>by
  rw[Sz hs ω,Bd,hn,Bj]
  constructor
  ·rintro⟨h|h,h2⟩
   ·exact h
   ·exact absurd h.2.symm h2
  ·intro h
   have:=G7 b aa h
   exact⟨.inl h,ω⟩
 unfold kB;rw[hg,Az h0];unfold G8 Ku sA;simp only;refine C9 fun t=>Bx.2 ?_;rw[vQ b.iO];by_cases h:Nu G (x.r.drop (d+1))
 ·rw[Az (AV (ab.2 h)),CU,CR,hb];exact⟨fun k=>k.imp id fun k=>⟨h,k⟩,fun k=>k.imp id (·.2)⟩
 ·rw[AJ (fun k=>h (ab.1 (CN k))),hb];exact⟨.inl,fun k=>k.resolve_right fun k=>h k.1⟩
end Lk
theorem Mz {α:Type} (l:List α) (x y:α) (n:Nat) (h:0<n):(l++List.replicate n x).set l.length y=(l++[y])++List.replicate (n-1) x:=by
 obtain⟨m,rfl⟩:∃m,n=m+1:=⟨n-1,ω⟩
 rw[De _ _ (Af _),DB,CY,DN,Cd];rfl
theorem SG {α:Type} (xs:List α) (z:α) (d:Nat) (h:d<xs.length):(xs.take d++List.replicate (xs.length-d) z).set d xs[d]=xs.take (d+1)++List.replicate (xs.length-(d+1)) z:=by
 have e:=Mz (xs.take d) z xs[d] (xs.length-d) ω;rw[Bm,Eb ω]at e;rw[e,AP h,show xs.length-d-1=xs.length-(d+1) by omega]
def cF (w:World) (At:Option Addr) (G:Gm.Gr):Prop:=∃g rs,At=some ⟨g,0,none⟩/\rs.map (·.1)=Lk.fO G/\ia 224 (jl (α:=Nat×Bool)) w g rs/\∀r∈rs,bU 226 2 vD w 0 w.heap.size r
theorem cF.rd {At:Option Addr} (h:cF w At G):mb 2 vD w w.heap.size At (Lk.fO G):=by
 obtain⟨g,rs,rfl,h1,h2,h3⟩:=h
 have:=ia.GB h2 h2.lt h3
 rw[h1]at this;exact this
theorem cF.fp {w w':World} {At:Option Addr} {G:Gm.Gr} (h:cF w At G) (hs:w.heap.size<=w'.heap.size) (hk:∀(g:Nat) (cur:Array Value) (T:TypeId),(T=224\/T=226)->w.heap[g]?=some (.cells cur T (0,0))->w'.heap[g]?=some (.cells cur T (0,0))):cF w' At G:=by
 obtain⟨g,rs,h0,h1,h2,h3⟩:=h;exact⟨g,rs,h0,h1,hk _ _ _ (.inl rfl) h2,fun r hr=>((h3 r hr).fp fun g cur _ _ hc=>hk g cur _ (.inr rfl) hc).more hs⟩
theorem cF.below {At:Option Addr} (h:cF w At G) (hb:β w w'):cF w' At G:=h.fp hb.size fun _ _ _ _ hc=>aC hb hc
theorem PX (v:Value) (G:Gm.Gr) (B:Nat) (w:World) (hg:aT w B v G) (hf:Gm.Fit G) (ar:Gm.Ok G) (hB:B<=w.heap.size) (ht:G.ts.length<=24) :
  Calls prog 97 #[v] w fun e w'=>∃A c,e=.returned (.slice A (Lk.fO G).length c)/\cF w' A G/\β w w':=by
 have hr:(2:Nat) ^ G.ts.length<4294967296:=by have:=Co (n:=2) δ ht;omega
 have bi:=aA (fun(y:World) (h:β w y) (l:List Int) (A:Option Addr) (c:Nat) (hl:gg y B A l) (b0:∀z∈l,Gm.In z) (b1:l.length<=9223372036854775807)=>TN v G l (2 ^ G.ts.length) A c B y (hg.below h hB) hf (Ah hB h.size) hl b0 b1 hr);have ae:=aA hr;have bj:=aA (show S.bit (G.ts.length:Int)=2 ^ G.ts.length from S.oh ω);generalize hP:(2:Nat) ^ G.ts.length=P at bi ae bj hr;have HP:=aA hP;clear hP;have au:=aA (fun(k:Nat) (hk:k<G.rs.length)=>Gm.fT (ar.rr _ (AD hk)));have b3:=aA ar.kL;have b4:=aA (fun(k:Nat) (hk:k<G.rs.length)=>hf.r _ (AD hk));have HB:=aA hB;have af:=aA (Lk.nQ G);obtain⟨AT,cT,AN,cN,AR,cR,rfl,⟨cv,cw⟩,⟨cx,cy⟩,⟨cz,cA⟩,hT,hN,hR⟩:=hg;have HR:=aA hR;obtain⟨wb,ag⟩:=χ (w.alloc (.cells #[.slice AT G.ts.length cT,.slice AN G.ns.length cN,.slice AR G.rs.length cR,.int .i64 G.st] 26))
 have bk:Hid (β w wb):=aA (by rw[ag];exact(AB _ _).alloc (Af _) _);have N:wb.heap[w.heap.size]?=some (.cells #[.slice AT G.ts.length cT,.slice AN G.ns.length cN,.slice AR G.rs.length cR,.int .i64 G.st] 26 (0,0)):=by rw[ag];exact AI w _
 have b5:=aA N;have av:=aA (Ad.1 N).1;have x0:=aQ N;have x2:=bB N;have cC:(G.rs.length:Int)<=1000000:=by have:=b3.o;omega
 clear hR hT hN N hf ar hB ht hr
 go_enter func97,ntmps97
 go_upto_region 1 with fail
 rw[<-ag];clear ag;go_wp2_with fail
 refine(Jx _ _).mono ?_;rintro _ w1 ⟨rfl,b6⟩;subst b6;rw[bj.o];go_upto_region 3 with(at_make;refine GY (m:=1) (f:=jl (α:=Nat×Bool)) rfl (.tmp 16) (.tmp 16) _ rfl underlying169 _ 24 TD δ δ δ (([],none,0):RW (Nat×Bool)) rfl G.rs.length rfl rfl ω ?_;intro w2 ah ai)
 obtain⟨gT,aj⟩:∃g,g=w1.heap.size:=⟨_,rfl⟩
 rw[<-aj]at ah;rw[<-aj];have b7:Hid (ia 224 jl w2 gT (([]:List (RW (Nat×Bool)))++List.replicate (G.rs.length-0) ([],none,0))):=aA ah;have b8:Hid (β w w2):=aA (bk.o.trans (ai.mono bk.o.size));have bl:=aA (aC ai b5.o);have aw:Hid (w.heap.size<gT):=aA (by rw[aj];exact av.o);have b9:=aA ah.lt;have ca:Hid (([]:List (RW (Nat×Bool))).map (·.1)=(Lk.fO G).take 0):=aA σ;have cE:=aA ai.size;have x22:=bB bl.o;clear ah ai aj x0 x2;go_wp2;clear x22;go_loopw [21] (fun vi wr=>∃(i:Nat) (rs:List (RW (Nat×Bool))),i<=G.rs.length/\vi=.int .i64 i/\Hid (rs.map (·.1)=(Lk.fO G).take i)/\Hid (∀r∈rs,bU 226 2 vD wr (gT+1) wr.heap.size r)/\Hid (ia 224 jl wr gT (rs++List.replicate (G.rs.length-i) ([],none,0)))/\Hid (wr.heap[w.heap.size]?=some (.cells #[.slice AT G.ts.length cT,.slice AN G.ns.length cN,.slice AR G.rs.length cR,.int .i64 G.st] 26 (0,0)))/\Hid (β w wr)) (fun vi _=>G.rs.length-(intOf vi).toNat)
 case atStart=>exact⟨0,[],Bb _,rfl,ca,aA σ,b7,bl,b8⟩
 case round =>
  obtain⟨i,rs,hi,rfl,ax,bm,HU,HX,HW⟩:=hrel;rename World=>wr;by_cases E:i<G.rs.length
  ·obtain⟨g,o,rfl,cb,hc⟩:=HR.o ω;obtain⟨k0,⟨A',c',k1,bn,_,bo⟩,k2⟩:=hc i E;have ay:g<w.heap.size:=Aj cb HB.o;have k0:=(HW.o.cell (p:=⟨g,o+i*3,none⟩) ay).trans k0;have k1:=(HW.o.cell (p:=⟨g,o+i*3+1,none⟩) ay).trans k1;have k2:=(HW.o.cell (p:=⟨g,o+i*3+2,none⟩) ay).trans k2;have bp:=aA bo;have cc:=aA bn;have bq:=aA (au.o i E);have cd:=aA (b4.o i E)
   have ce:Hid ((Lk.fO G).take (i+1)=(Lk.fO G).take i++[Lk.fL G (G.rs[i]).r]):=aA (by
    rw[AP (by rw[af.o];exact E),Lk.qh _ E])
   have b:=aA (Lk.nS G (G.rs[i]).r);have cf:=aA (fun d (h:d<(Lk.fL G (G.rs[i]).r).length)=>Lk.qi (G:=G) (r:=(G.rs[i]).r) h)
   have ak:rs.length=i:=by
    have:=congrArg List.length ax.o
    rw[Bh,Bm,af.o]at this;omega
   obtain⟨wi,al⟩:=χ (wr.alloc (.cells #[.int .i64 (G.rs[i]).l,.slice A' (G.rs[i]).r.length c',.int .i64 (G.rs[i]).p] 74))
   have u:Hid (β wr wi):=aA (by rw[al];exact(AB _ _).alloc (Af _) _);have az:wi.heap[wr.heap.size]?=some (.cells #[.int .i64 (G.rs[i]).l,.slice A' (G.rs[i]).r.length c',.int .i64 (G.rs[i]).p] 74 (0,0)):=by rw[al];exact AI wr _
   have aa:=aA az;have y1:=aU az;have cG:(((G.rs[i]).r.length:Nat):Int)<=6:=by have:=bq.o.1;omega
   have br:Hid ((G.rs[i]).r.length<=6):=aA bq.o.1;have bs:=aA E;have cI:((i:Nat):Int)<((G.rs.length:Nat):Int):=ω
   have F:Hid (gT<wr.heap.size):=aA HU.o.lt;clear hc bo bn az;generalize (G.rs[i]).l=lf at *;generalize (G.rs[i]).r=r at *;generalize (G.rs[i]).p=rp at *;go_upto_region 6 with fail
   rw[<-al];clear al k0 k1 k2;go_upto_region 7 with(at_make;refine GY (m:=2) (f:=vD) rfl (.tmp 30) (.tmp 30) _ rfl underlying224 _ 8 Um δ δ δ ((0,false):Nat×Bool) rfl r.length rfl rfl ω ?_;intro wm bu bv;have D:=aA (Ca bu bv);clear bu bv;have O:=aA ((HU.o.below u.o F.o).below D.o.2 (Aj F.o u.o.size));have cm:=O.o.cell tE i 0 (by rw[AZ,Ea,ak];omega) _ rfl;rw[DS,CB]at cm;have fm:=O.o.frozen i;have lm:=O.o.lt)
   have U:Hid (β wi wm):=aA D.o.2;have D:=aA D.o.1;obtain⟨gr,am⟩:∃g,g=wi.heap.size:=⟨_,rfl⟩
   rw[<-am]at D;rw[<-am];have ao:Hid (gT≠gr):=aA (by have:=F.o;have:=u.o.size;omega)
   have cg:Hid (ia 226 vD (wm.setCell ⟨gT,i,none⟩ (.slice (some ⟨gr,0,none⟩) r.length r.length)) gr ((Lk.fL G r).take 0++List.replicate ((Lk.fL G r).length-0) (0,false))):=aA (by
    rw[D5,CS,Nat.sub_zero,b.o];exact D.o.jv (fun e=>ao.o e.symm) _)
   have bw:Hid (Below w.heap.size w (wm.setCell ⟨gT,i,none⟩ (.slice (some ⟨gr,0,none⟩) r.length r.length))):=aA (((HW.o.trans (u.o.mono HW.o.size)).trans (U.o.mono (Ah HW.o.size u.o.size))).setCell (Cx aw.o) _);have V:=aA (O.o.xJ i (Lk.fL G r,some ⟨gr,0,none⟩,r.length) (some ⟨gr,0,none⟩) r.length r.length rfl b.o rfl);have a0:Hid ((wm.setCell ⟨gT,i,none⟩ (.slice (some ⟨gr,0,none⟩) r.length r.length)).heap[w.heap.size]?=some (.cells #[.slice AT G.ts.length cT,.slice AN G.ns.length cN,.slice (some ⟨g,o,none⟩) G.rs.length cR,.int .i64 G.st] 26 (0,0))):=aA ((AQ _ _ _ _ (by have:=aw.o;simp only;omega)).trans (aC U.o (aC u.o HX.o)));have a1:Hid ((wm.setCell ⟨gT,i,none⟩ (.slice (some ⟨gr,0,none⟩) r.length r.length)).heap[wr.heap.size]?=some (.cells #[.int .i64 lf,.slice A' r.length c',.int .i64 rp] 74 (0,0))):=aA ((AQ _ _ _ _ (by have:=F.o;simp only;omega)).trans (aC U.o aa.o))
   have a2:Hid ((rs++List.replicate (G.rs.length-i) ([],none,0)).set i (Lk.fL G r,some ⟨gr,0,none⟩,r.length)=(rs++[((Lk.fL G r,some ⟨gr,0,none⟩,r.length):RW (Nat×Bool))])++List.replicate (G.rs.length-(i+1)) ([],none,0)):=aA (by
    have:=Mz rs ([],none,0) ((Lk.fL G r,some ⟨gr,0,none⟩,r.length):RW (Nat×Bool)) (G.rs.length-i) (by have:=bs.o;omega)
    rw[ak]at this;rw[this,show G.rs.length-i-1=G.rs.length-(i+1) by omega])
   rw[a2.o]at V;have ch:Hid (∀x∈rs,bU 226 2 vD (wm.setCell ⟨gT,i,none⟩ (.slice (some ⟨gr,0,none⟩) r.length r.length)) (gT+1) wr.heap.size x):=aA (fun x hx=>(((bm.o x hx).below u.o (Af _)).below U.o u.o.size).fp (fun g1 cur h1 h2 h3=>(AQ _ _ _ _ (by simp only;omega)).trans h3));have H:Hid (wr.heap.size<gr):=aA (by rw[am];exact(Ad.1 aa.o).1);generalize ci:wm.setCell ⟨gT,i,none⟩ (.slice (some ⟨gr,0,none⟩) r.length r.length)=wn at *;clear cm fm lm am ci D O U y1;have y1:=aU a1.o;go_wp2;clear y1;go_loopw [36] (fun vd wy=>∃d:Nat,d<=r.length/\vd=.int .i64 d/\Hid (ia 226 vD wy gr ((Lk.fL G r).take d++List.replicate ((Lk.fL G r).length-d) (0,false)))/\Hid (wn.grownBy wy (some gr))) (fun vd _=>r.length-(intOf vd).toNat)
   case atStart=>exact⟨0,Bb _,rfl,cg,aA (AO _ _)⟩
   case round =>
    obtain⟨d,hd,rfl,ap,HG⟩:=hrel;rename World=>wy;have I:=aA ((HG.o.block w.heap.size (Ad.1 a0.o).1 (fun e=>by injection e with e;have:=H.o;have:=aw.o;have:=F.o;omega)).trans a0.o);have a3:=aA ((HG.o.block wr.heap.size (Ad.1 a1.o).1 (fun e=>by injection e with e;have:=H.o;omega)).trans a1.o);have J:Hid (β w wy):=aA (aM bw.o HG.o (by have:=H.o;have:=HW.o.size;omega) bw.o.size);by_cases C:d<r.length
    ·obtain⟨gq,oq,rfl,cj,ck⟩:=bp.o ω;have z0:=(J.o.cell (p:=⟨gq,oq+d,none⟩) (Aj cj HB.o)).trans (ck d C);rw[L.fy C]at z0;have a4:=aA (cf.o d (by rw[b.o];exact C));have cl:=aA (SG (Lk.fL G r) (0,false) d (by rw[b.o];exact C));have a5:=aA C
     have cn:Hid ((Lk.fL G r).take d++List.replicate ((Lk.fL G r).length-d) (0,false)=(Lk.fL G r).take d++(0,false)::List.replicate ((Lk.fL G r).length-(d+1)) (0,false)):=aA (by
      rw[show(Lk.fL G r).length-d=((Lk.fL G r).length-(d+1))+1 by rw[b.o];omega,CY])
     have cJ:((d:Nat):Int)<((r.length:Nat):Int):=ω
     have ab:IntKind.i64.wrap (((d:Nat):Int)+1)=((d+1:Nat):Int):=by rw[BV _ ω];omega
     by_cases hz:r[d]<0
     ·have X:Hid (Lk.kB G r d=(Gm.rf G (r.drop (d+1)) (P) &&& (4294967295-P),decide (Gm.rf G (r.drop (d+1)) (P) &&& P≠0))):=aA (by
       rw[<-HP.o];unfold Lk.kB;exact Az (by rw[Aw,AH C,Bu];exact hz))
      obtain⟨j,hj⟩:∃j,d+1=j:=⟨_,rfl⟩
      rw[hj]at ab X;have SL:=fun w=>Hm w (some ⟨gq,oq,none⟩) c' r.length (j) ω;have co:Hid (gg wy B (fY (some ⟨gq,oq,none⟩) c' (j)) (r.drop (j))):=aA ((bp.o.below J.o HB.o).fY cc.o (j));have cp:=aA (fun z (h:z∈r.drop (j))=>cd.o.2.2 z (C7 h));have bx:Hid ((r.drop (j)).length=r.length-(j)):=aA Bt;have ac:=aA (fun(y:World) (h:β wy y)=>bi.o y (J.o.trans (h.mono J.o.size)) (r.drop (j)) (fY (some ⟨gq,oq,none⟩) c' (j)) (c'-(j)) (co.o.below h (Ah HB.o J.o.size)) cp.o (by rw[bx.o];have:=br.o;omega));rw[bx.o]at ac;have bz:=aA (Gm.uK (G:=G) (r.drop j) ae.o);have HJ:=aA hj;clear hj;generalize Gm.rf G (r.drop j) (P)=s at *;have aq:decide (r[d]<0)=true:=AV hz;generalize r[d]=z at *;have y1:=aU a3.o;go_wp2_with fail
      refine(Ih _ _).mono ?_;rintro _ w5 ⟨rfl,a6⟩;subst a6;rw[aq];go_upto_region 11 with fail
      clear y1 z0 hz aq;have cK:Hid (w.heap.size<w5.heap.size/\wr.heap.size<w5.heap.size):=aA ⟨(Ad.1 I.o).1,(Ad.1 a3.o).1⟩;have q0:=fun y:Calm.On w5.heap.size w5=>aQ (aC y.2 I.o);have q1:=fun y:Calm.On w5.heap.size w5=>aU (aC y.2 I.o);have q2:=fun y:Calm.On w5.heap.size w5=>bB (aC y.2 I.o);have q3:=fun y:Calm.On w5.heap.size w5=>bL (aC y.2 I.o);have q4:=fun y:Calm.On w5.heap.size w5=>aU (aC y.2 a3.o);have bD:=rM w5;refine CalmN.fk (γ w5) (.one [0,1,2,3,4,5,6] 7 (.fin [8])) bD.o ?_;simp only[CalmN.fS,CalmN.fu,CalmN.fo,Aq,Ai,Am];repeat (go_big_quiet_step (fail))
      refine Ap ?_;intro KK bM;rw[Az ε];go_wp2_with fail
      refine(ac.o w5.drew (aB (AB _ _) 1)).mono ?_;rintro _ wz ⟨rfl,M⟩;have M:β w5 wz:=(aB (AB _ w5) 1).trans M;have bT:=yM M;have t:=aA (ap.o.below M ap.o.lt);have bX:Hid (wn.grownBy wz (some gr)):=aA (qI HG.o (aL M _));have a9:Hid (wz.heap[gT]?=wn.heap[gT]?):=aA (bX.o.block gT V.o.lt (fun e=>by injection e with e;exact ao.o e));clear M q0 q1 q2 q3 q4 bD SL ab;go_wp2_with fail
      refine bM _ _ bT.o _ ι bT.o ?_;clear bM;repeat (go_big_quiet_step (fail))
      refine Ap ?_
      have cT2:wz.cell? ⟨gT,i,none⟩=some (.slice (some ⟨gr,0,none⟩) r.length r.length):=by
       have:=ia.cell (m:=1) (f:=jl) (show ia 224 jl wz gT (rs++[((Lk.fL G r,some ⟨gr,0,none⟩,r.length):RW (Nat×Bool))]++List.replicate (G.rs.length-(i+1)) ([],none,0)) from a9.o.trans V.o) tE i 0 (by rw[AZ,AZ,BC,ak];omega) (.slice (some ⟨gr,0,none⟩) r.length r.length) (by
        simp only[Cd,ED];rw[Db ω];simp only[ak,DB,List.getElem_cons_zero];unfold jl;rw[b.o];rfl)
       rw[DS,CB]at this;exact this
      have ba:d<((Lk.fL G r).take d++List.replicate ((Lk.fL G r).length-d) (0,false)).length:=by
       rw[AZ,Bm,Ea,b.o];have:=a5.o;omega
      have bb:((Lk.fL G r).take d++List.replicate ((Lk.fL G r).length-d) ((0,false):Nat×Bool))[d]=(0,false):=by
       rw[Db (by rw[Bm];omega),List.getElem_replicate]
      have c0:wz.cell? ⟨gr,d*2,none⟩=some (.int .u32 0):=t.o.cell Im d 0 ba _ (by rw[bb];rfl);have c1:wz.cell? ⟨gr,d*2+1,none⟩=some (.bool false):=t.o.cell Im d 1 ba _ (by rw[bb];rfl);have f0:=t.o.frozen (d*2);have f1:=t.o.frozen (d*2+1);have lz:=t.o.lt;have cL:=u32_andNot_nat s (P) bz.o ae.o;have cq:=u32_and_nat s (P) bz.o ae.o
      have cM:(((s &&& P:Nat):Int) != 0)=decide (s &&& P≠0):=by
       rw[Bx,DW,Bj];omega
      have ad:=aA (t.o.xK Im d (Lk.kB G r d) (.int .u32 ((s &&& (4294967295-P):Nat):Int)) (.bool (decide (s &&& P≠0))) (by rw[X.o];rfl));rw[<-a4.o,cl.o]at ad;have cr:Hid (wn.grownBy ((wz.setCell ⟨gr,d*2,none⟩ (.int .u32 ((s &&& (4294967295-P):Nat):Int))).setCell ⟨gr,d*2+1,none⟩ (.bool (decide (s &&& P≠0)))) (some gr)):=aA (aF (aF bX.o _ _) _ _);clear ba bb X a4;generalize s &&& (4294967295-P)=bg at *;generalize s &&& P=an at *;generalize decide (an≠0)=nb at *;go_wp2;go_roundw
      case rel=>exact⟨d+1,a5.o,ν,ad,cr⟩
      case measure=>simp[intOf];omega
     ·have X:Hid (Lk.kB G r d=(0,false)):=aA (by
       unfold Lk.kB;exact AJ (by rw[Aw,AH C,Bu];exact hz))
      have aq:decide (r[d]<0)=false:=AU hz
      have cs:Hid (ia 226 vD wy gr ((Lk.fL G r).take (d+1)++List.replicate ((Lk.fL G r).length-(d+1)) (0,false))):=aA (by
       have:=ap.o
       rw[cn.o]at this;rw[AP (by rw[b.o];exact C),a4.o,X.o,Cd];exact this)
      generalize r[d]=z at *;go_wp2_with fail
      refine(Ih _ _).mono ?_;rintro _ w5 ⟨rfl,a6⟩;subst a6;rw[aq];go_wp2;go_roundw
      case rel=>exact⟨d+1,a5.o,ν,cs,HG⟩
      case measure=>simp[intOf];omega
    ·obtain rfl:d=r.length:=ω
     have bc:Hid (ia 226 vD wy gr (Lk.fL G r)):=aA (by
      have:=ap.o
      rw[<-b.o,Bp,DB,Er,CG]at this;exact this)
     have cu:=aA ((show w.heap.size<wn.heap.size from(Ad.1 a0.o).1));have bd:Hid (ia 224 jl wy gT (rs++[((Lk.fL G r,some ⟨gr,0,none⟩,r.length):RW (Nat×Bool))]++List.replicate (G.rs.length-(i+1)) ([],none,0))):=aA ((HG.o.block gT V.o.lt (fun e=>by injection e with e;exact ao.o e)).trans V.o)
     have bf:Hid (∀x∈rs++[((Lk.fL G r,some ⟨gr,0,none⟩,r.length):RW (Nat×Bool))],bU 226 2 vD wy (gT+1) wy.heap.size x):=aA (fun x hx=>by
      rcases Bs.1 hx with hx|hx
      ·exact(((ch.o x hx).fp fun g1 cur h1 h2 h3=>(HG.o.block g1 (Ad.1 h3).1 (fun e=>by injection e with e;have:=H.o;omega)).trans h3)).more (by have:=H.o;have:=bc.o.lt;omega)
      ·rw[AW.1 hx];exact⟨by rw[b.o];exact Af _,by have:=br.o;simp only;omega,bc.o.ve Im (by have:=ao.o;have:=F.o;have:=H.o;omega) bc.o.lt⟩)
     have bh:Hid ((rs++[((Lk.fL G r,some ⟨gr,0,none⟩,r.length):RW (Nat×Bool))]).map (·.1)=(Lk.fO G).take (i+1)):=aA (by rw[Bi,ax.o,ce.o];rfl);go_wp2;go_roundw
     case rel=>exact⟨i+1,rs++[((Lk.fL G r,some ⟨gr,0,none⟩,r.length):RW (Nat×Bool))],bs.o,ν,bh,bf,bd,I,J⟩
     case measure=>simp[intOf];omega
  ·obtain rfl:i=G.rs.length:=ω
   rw[DB,Er,CG]at HU;have HE:Hid ((Lk.fO G).take G.rs.length=Lk.fO G):=aA (by rw[<-af.o,Bp]);go_wp2;go_ret
   refine⟨some ⟨gT,0,none⟩,G.rs.length,by rw[af.o];rfl,?_,HW.o⟩;exact⟨gT,rs,rfl,ax.o.trans HE.o,HU.o,fun r hr=>(bm.o r hr).less (Bb _)⟩
end Go.Proofs.YtjjbaehamplnaaaGreat
