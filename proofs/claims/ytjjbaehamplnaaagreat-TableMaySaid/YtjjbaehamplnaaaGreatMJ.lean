/- Part of the proofs over this program: TrimReduce, AuFn, AuWalk2, LookE, LookF, WordsU, SetW, ApQ, ItE, RowM, MapU, LkFn, AuAdd, LkSt, AuAdd2, AuBegin, Sort. -/
import Derived.Laws.BitsAllLaws
import Derived.Laws.Shifts
import Derived.Maps.Keyed
import Derived.DeepKeys4
import Derived.Shelf.SlGeneric
import Derived.Shelf.SlSortCmp.NoneTotal
import Derived.Ground.SlsfProg
import Derived.Ground.NamesProg
import Derived.Test.YtjjbaehamplnaaaGreatMI
set_option linter.all false
namespace Go
def EM:=@Go.u32_or_nat
def D9:=@Array.getElem?_toList
end Go
set_option maxRecDepth 100000
set_option maxHeartbeats 40000000
variable {A:Option Go.Addr} {B B' M N b base g i k n:Nat} {E:List (List (Int×Int))} {G:Go.Proofs.YtjjbaehamplnaaaGreat.Gm.Gr} {P:Go.Program} {cs:Array Go.Value} {fr:Nat×Nat} {ls zs:List Int} {ops:Array Go.Oper} {p:Go.Addr} {s:Int} {u v:Go.Value} {w w':Go.World} {xs:List Go.Value}
namespace Go.Proofs.YtjjbaehamplnaaaGreat
open Go.RowKit
def Gm.gr0:Gm.Gr:=⟨[],[],[],0⟩
theorem zjT (w:World) (B:Nat):aQ w B (.agg #[.slice none 0 0,.slice none 0 0,.slice none 0 0,.int .i64 0]) Gm.gr0:=⟨none,0,none,0,none,0,rfl,by simp[Gm.gr0],by simp[Gm.gr0],by simp[Gm.gr0],fun h=>absurd rfl h,fun h=>absurd rfl h,fun h=>absurd rfl h⟩
theorem zge (w:World):(Instr.build 26 #[]).run Tryz.prog w=.ok (.agg #[.slice none 0 0,.slice none 0 0,.slice none 0 0,.int .i64 0]) w:=D6 w 26 _ _ (by kernel_rfl)
noncomputable def Gm.rdE (G:Gm.Gr):Int:=if Gm.right G=true then(if Gm.tr (Gm.Gn true G.rs G.st)=true then 0 else 9) else 1
noncomputable def Gm.rdG (G:Gm.Gr):Gm.Gr:=if Gm.rdE G=0 then Gm.reduce G else Gm.gr0
noncomputable def Gm.rdL (G:Gm.Gr):List Int:=if Gm.rdE G=0 then Gm.kl G G.rs.length else []
theorem Gm.rdE_no (h:Gm.right G=false):Gm.rdE G=1:=by unfold Gm.rdE;rw[h];rfl
theorem Gm.rdE_empty (h:Gm.right G=true) (k:Gm.tr (Gm.Gn true G.rs G.st)=false):Gm.rdE G=9:=by unfold Gm.rdE;rw[h,k];rfl
theorem Gm.rdE_ok (h:Gm.right G=true) (k:Gm.tr (Gm.Gn true G.rs G.st)=true):Gm.rdE G=0:=by unfold Gm.rdE;rw[h,k];rfl
def zbs (G:Gm.Gr) (w:World) (e:Ending) (w':World):Prop:=∃g A c,e=.returned (.tuple #[g,.slice A (Gm.rdL G).length c,.int .i64 (Gm.rdE G)])/\aQ w' w'.heap.size g (Gm.rdG G)/\RdI w' w'.heap.size A (Gm.rdL G)/\Below w.heap.size w w'
theorem zbs.no {er:Int} (h:Gm.rdE G=er) (h0:er≠0) (hb:Below w.heap.size w w'):zbs G w (.returned (.tuple #[.agg #[.slice none 0 0,.slice none 0 0,.slice none 0 0,.int .i64 0],.slice none 0 0,.int .i64 er])) w':=by
 have hL:Gm.rdL G=[]:=by unfold Gm.rdL;rw[AB (by rw[h];exact h0)]
 have hG:Gm.rdG G=Gm.gr0:=by unfold Gm.rdG;rw[AB (by rw[h];exact h0)]
 refine⟨_,none,0,by rw[hL,h];rfl,?_,?_,hb⟩
 ·rw[hG];exact zjT _ _
 ·rw[hL];exact RdI.nil _ _ _
theorem zbs.ok {g:Value} {c:Nat} {ks:List Int} (h:Gm.rdE G=0) (hk:ks=Gm.kl G G.rs.length) (hg:aQ w' w'.heap.size g (Gm.reduce G)) (hr:RdI w' w'.heap.size A ks) (hb:Below w.heap.size w w'):zbs G w (.returned (.tuple #[g,.slice A ks.length c,.int .i64 0])) w':=by
 have hL:Gm.rdL G=ks:=by unfold Gm.rdL;rw[Ap h,hk]
 have hG:Gm.rdG G=Gm.reduce G:=by unfold Gm.rdG;rw[Ap h]
 exact⟨g,A,c,by rw[hL,h],by rw[hG];exact hg,by rw[hL];exact hr,hb⟩
theorem zec (v:Value) (G:Gm.Gr) (B:Nat) (w:World) (hg:aQ w B v G) (hf:Gm.Fit G) (hB:B<=w.heap.size) :
  Calls Tryz.prog 91 #[v] w (zbs G w):=by
 have H1:=aA (fun(x:World) (h:Below w.heap.size w x)=>zaq v G B x (hg.below h hB) hf (Ag hB h.size));have H2:=aA (fun(x:World) (h:Below w.heap.size w x)=>zaJ v G B x (hg.below h hB) hf (Ag hB h.size));have H3:=aA (fun(q:Gm.right G=true) (x:World) (h:Below w.heap.size w x)=>zjc v G B x (hg.below h hB) hf (Gm.right_ok.1 q) (Ag hB h.size));have H4:=aA (fun(q:Gm.right G=true) (hp:Gm.Gn true G.rs G.st) (x:World) (h:Below w.heap.size w x) (AK:Option Addr) (cK:Nat) (hk:RdI x x.heap.size AK (Gm.kl G G.rs.length))=>zef v G B x.heap.size AK cK x (hg.below h hB) hf (Gm.right_ok.1 q) hp (Ag hB h.size) hk (Ad _));have bm:=fun w=>zge w;obtain⟨AT,cT,AN,cN,AR,cR,rfl,_⟩:=hg;obtain⟨w1,r⟩:∃y,y=(w.alloc (.cells #[.slice AT G.ts.length cT,.slice AN G.ns.length cN,.slice AR G.rs.length cR,.int .i64 G.st] 26)).alloc (.cells #[.slice none 0 0,.slice none 0 0,.slice none 0 0,.int .i64 0] 26):=⟨_,rfl⟩
 have ak:w1.heap.size=w.heap.size+2:=by rw[r];simp
 have ab:Hid (Below w.heap.size w w1):=aA (by rw[r];exact((Aq _ w).alloc (Ad _) _).alloc (by simp) _);have z:Hid (w1.heap[w.heap.size]?=some (.cells #[.slice AT G.ts.length cT,.slice AN G.ns.length cN,.slice AR G.rs.length cR,.int .i64 G.st] 26 (0,0))):=aA (by rw[r,BI _ _ _ (by simp)];exact Az w _);have a6:Hid (w1.heap[w.heap.size+1]?=some (.cells #[.slice none 0 0,.slice none 0 0,.slice none 0 0,.int .i64 0] 26 (0,0))):=aA (by rw[r];have:=Az (w.alloc (.cells #[.slice AT G.ts.length cT,.slice AN G.ns.length cN,.slice AR G.rs.length cR,.int .i64 G.st] 26)) (.cells #[.slice none 0 0,.slice none 0 0,.slice none 0 0,.int .i64 0] 26);simpa using this);have al:=aA ak;have HQ:=aA (fun(y:World) (h:Below w1.heap.size w1 y)=>(h.block w.heap.size (by omega)).trans z.o);have HZ:=aA (fun(y:World) (h:Below w1.heap.size w1 y)=>(h.block (w.heap.size+1) (by omega)).trans a6.o);have t:=aA (fun(y:World) (h:Below w1.heap.size w1 y)=>ab.o.trans (h.mono (by omega)));have c0:=aM z.o;have c1:=aR z.o;have c2:=bF z.o;have c3:=bQ z.o;have bn:w.heap.size<w1.heap.size:=by omega
 clear hf ak;cases q:Gm.right G
 ·rw[q]at H1;have HE:=aA (Gm.rdE_no q);clear q H2 H3 H4
  go_enter Tryz.func91,Tryz.ntmps91
  go_upto_region 1 with fail
  rw[<-r];clear r;go_wp2_with fail
  refine(H1.o _ ab.o).mono ?_;rintro _ w2 ⟨rfl,i⟩;have g0:=aM (HZ.o w2 i);have g1:=aR (HZ.o w2 i);have g2:=bF (HZ.o w2 i);have g3:=bQ (HZ.o w2 i);have e0:=AD w2 _ 0 _ _ (HZ.o w2 i);have e1:=AD w2 _ 1 _ _ (HZ.o w2 i);have e2:=AD w2 _ 2 _ _ (HZ.o w2 i);have e3:=AD w2 _ 3 _ _ (HZ.o w2 i);have lz:=(Ac.1 (HZ.o w2 i)).1;have A:=aA (fun u1 u2 u3 u4=>((((t.o w2 i).setCell (p:=⟨w.heap.size+1,0,none⟩) (by simp only;omega) u1).setCell (p:=⟨w.heap.size+1,1,none⟩) (by simp only;omega) u2).setCell (p:=⟨w.heap.size+1,2,none⟩) (by simp only;omega) u3).setCell (p:=⟨w.heap.size+1,3,none⟩) (by simp only;omega) u4);clear c0 c1 c2 c3 i H1;go_wp2;refine BM (v:=.tuple #[.agg #[.slice none 0 0,.slice none 0 0,.slice none 0 0,.int .i64 0],.slice none 0 0,.int .i64 1]) (by simp[results,Tryz.results91,go_sem,g0,g1,g2,g3]) rfl ?_;exact zbs.no HE.o (by decide) (A.o _ _ _ _)
 ·have am:=aA q;have ao:=aA (Gm.right_ok.1 q);have H2:=aA (fun x h=>(show Calls _ _ _ _ (zlf _ _) from(H2.o x h).mono fun e w' k=>k.1 q));have H3:=aA (H3.o q);have H4:=aA (H4.o q);rw[q]at H1;clear q;obtain⟨T,hT⟩:∃x,x=Gm.gn true G.rs G.ns.length:=⟨_,rfl⟩
  have ap:Hid (T.length=G.ns.length):=aA (by rw[hT,Gm.gn_len]);rw[<-hT]at H2;have a9:=ao.o.s0;have ac:=ao.o.s1;obtain⟨m,hm⟩:∃m:Nat,G.st=(m:Int):=⟨G.st.toNat,by omega⟩
  obtain⟨tb,ad⟩:∃b,b=T.getD m false:=⟨_,rfl⟩
  have ae:Hid (tb=Gm.tr (Gm.Gn true G.rs G.st)):=aA (by rw[ad,hT,Gm.gn_at _ _ _ _ (by omega),hm]);have ba:=aA ad;have HM:=aA hm;have bb:m<G.ns.length:=by omega
  have bo:(m:Int)<(G.ns.length:Int):=by omega
  clear hT a9 ac hm ad
  go_enter Tryz.func91,Tryz.ntmps91
  go_upto_region 1 with fail
  rw[<-r];clear r;go_upto_region 3 with fail
  refine(H1.o _ ab.o).mono ?_;rintro _ w2 ⟨rfl,i⟩;have j:=aA i;clear i c0 c1 c2 c3 H1;go_upto_region 3 with fail
  go_cut [16] (fun v16 wx=>v16=.bool (!tb)/\Below w1.heap.size w1 wx)
  case first =>
   have q0:=fun y:Calm.On w2.heap.size w2=>aM (HQ.o y.1 (j.o.trans (y.2.mono j.o.size)));have q1:=fun y:Calm.On w2.heap.size w2=>aR (HQ.o y.1 (j.o.trans (y.2.mono j.o.size)));have q2:=fun y:Calm.On w2.heap.size w2=>bF (HQ.o y.1 (j.o.trans (y.2.mono j.o.size)));have q3:=fun y:Calm.On w2.heap.size w2=>bQ (HQ.o y.1 (j.o.trans (y.2.mono j.o.size)));rw[HM.o]at q3;rw[HM.o]at H2;have C:Hid (Below w2.heap.size w2 w2.drew):=aA (aB (Aq _ _) 1);refine CalmN.region_tree (fun x=>∃y:Calm.On w2.heap.size w2,x=y.1) (.one [0,2,3] 1 (.fin [4,5,6])) (by kernel_rfl) (by kernel_rfl) (fun _ _ d _ _ h=>by cases d <;> exact h) ⟨⟨w2.drew,C.o⟩,rfl⟩ ?_;simp only[CalmN.wpT,CalmN.wpSt,CalmN.pickOps,Am,Af,Ah];repeat (go_big_quiet_step (fail))
   refine Aj ?_;clear q0 q1 q2 q3;obtain⟨wd,aq⟩:∃y,y=w2.drew:=⟨_,rfl⟩
   rw[<-aq]at C ⊢;clear aq;intro KK ar;rw[Ap (by rfl)];go_wp2_with fail
   refine(H2.o wd (t.o _ (j.o.trans (C.o.mono j.o.size)))).mono ?_;rintro _ w3 ⟨ga,rfl,bc,af,au⟩;rw[ap.o];have l:Below w2.heap.size w2 w3:=C.o.trans (au.mono C.o.size);have bd:=aA (j.o.trans (l.mono j.o.size));go_wp2_with fail
   refine ar _ _ ⟨⟨w3,l⟩,rfl⟩ (fun x=>∃y:Calm.On w3.heap.size w3,x=y.1) (fun x h=>by obtain⟨y,rfl⟩:=h;exact⟨⟨y.1,l.trans (y.2.mono l.size)⟩,rfl⟩) ⟨⟨w3,Aq _ _⟩,rfl⟩ ?_;have bk:=fun y:Calm.On w3.heap.size w3=>(y.2.cell (p:=⟨ga,m,none⟩) af.lt).trans (af.cell m (by rw[ap.o];exact bb));rw[<-ba.o]at bk;clear au bc af l ar;repeat (go_big_quiet_step (fail))
   refine Aj ?_;go_wp2_with fail
   go_meet
   case rel=>exact⟨rfl,bd.o⟩
  case rest =>
   obtain⟨rfl,f⟩:=hcut;rw[ae.o];cases hp:Gm.tr (Gm.Gn true G.rs G.st)
   ·have HE:=aA (Gm.rdE_empty am.o hp);have g0:=aM (HZ.o wc f);have g1:=aR (HZ.o wc f);have g2:=bF (HZ.o wc f);have g3:=bQ (HZ.o wc f);have e0:=AD wc _ 0 _ _ (HZ.o wc f);have e1:=AD wc _ 1 _ _ (HZ.o wc f);have e2:=AD wc _ 2 _ _ (HZ.o wc f);have e3:=AD wc _ 3 _ _ (HZ.o wc f);have lz:=(Ac.1 (HZ.o wc f)).1;have A:=aA (fun u1 u2 u3 u4=>((((t.o wc f).setCell (p:=⟨w.heap.size+1,0,none⟩) (by simp only;omega) u1).setCell (p:=⟨w.heap.size+1,1,none⟩) (by simp only;omega) u2).setCell (p:=⟨w.heap.size+1,2,none⟩) (by simp only;omega) u3).setCell (p:=⟨w.heap.size+1,3,none⟩) (by simp only;omega) u4);clear hp ae H2 H3 H4 f;go_wp2;refine BM (v:=.tuple #[.agg #[.slice none 0 0,.slice none 0 0,.slice none 0 0,.int .i64 0],.slice none 0 0,.int .i64 9]) (by simp[results,Tryz.results91,go_sem,g0,g1,g2,g3]) rfl ?_;exact zbs.no HE.o (by decide) (A.o _ _ _ _)
   ·have HE:=aA (Gm.rdE_ok am.o hp);have H4:=aA (H4.o (Gm.tr_iff.1 hp));have aa:=aA f;have c0:=aM (HQ.o wc f);have c1:=aR (HQ.o wc f);have c2:=bF (HQ.o wc f);have c3:=bQ (HQ.o wc f);have lc0:=Bd c0;obtain⟨ks,ag⟩:∃ks,ks=Gm.kl G G.rs.length:=⟨_,rfl⟩
    rw[<-ag]at H3 H4;have bf:=aA ag;clear hp ae H2 f ag;go_wp2_with fail
    refine(H3.o _ (t.o _ aa.o)).mono ?_;rintro _ w4 ⟨u,rfl,ah,av⟩;have s:=aA (aa.o.trans (av.mono aa.o.size));obtain⟨A4,c4,rfl,_,_,aw⟩:=ah.form;have ax:=aA aw;have ay:=aA ah;have bg:=aA (Ag aa.o.size (Ad wc.heap.size));clear c0 c1 c2 c3 lc0 av aw ah;have c0:=aM (HQ.o w4 s.o);have c1:=aR (HQ.o w4 s.o);have c2:=bF (HQ.o w4 s.o);have c3:=bQ (HQ.o w4 s.o);have lc0:=Bd c0;go_wp2_with fail
    refine(H4.o w4 (t.o _ s.o) A4 c4 ax.o).mono ?_;rintro _ w5 ⟨g,rfl,az,ai⟩;have n:=aA (s.o.trans (ai.mono s.o.size));have a0:=aA (ay.o.below ai (Ad _));have a1:=aA az;obtain⟨u0,u1,u2,rfl,a2,a3,a4⟩:=az;obtain⟨A0,d0,rfl,_,_⟩:=aL a2;obtain⟨A1,d1,rfl,_,_⟩:=aL a3;obtain⟨A2,d2,rfl,_,_⟩:=zaN a4;have bh:=aA (s.o.size);clear a2 a3 a4;clear c0 c1 c2 c3 lc0 ai ax ay;have g0:=aM (HZ.o w5 n.o);have g1:=aR (HZ.o w5 n.o);have g2:=bF (HZ.o w5 n.o);have g3:=bQ (HZ.o w5 n.o);have e0:=AD w5 _ 0 _ _ (HZ.o w5 n.o);have e1:=AD w5 _ 1 _ _ (HZ.o w5 n.o);have e2:=AD w5 _ 2 _ _ (HZ.o w5 n.o);have e3:=AD w5 _ 3 _ _ (HZ.o w5 n.o);have lz:=(Ac.1 (HZ.o w5 n.o)).1;have A:=aA (fun u1 u2 u3 u4=>((((t.o w5 n.o).setCell (p:=⟨w.heap.size+1,0,none⟩) (by simp only;omega) u1).setCell (p:=⟨w.heap.size+1,1,none⟩) (by simp only;omega) u2).setCell (p:=⟨w.heap.size+1,2,none⟩) (by simp only;omega) u3).setCell (p:=⟨w.heap.size+1,3,none⟩) (by simp only;omega) u4);have aj:=aF (aF (aF (aF (AI w5 (some (w.heap.size+1))) 0 (.slice A0 (Gm.reduce G).ts.length d0)) 1 (.slice A1 (Gm.reduce G).ns.length d1)) 2 (.slice A2 (Gm.reduce G).rs.length d2)) 3 (.int .i64 (Gm.reduce G).st);have bi:=aA (a1.o.grown aj (fun g e=>by injection e with e;have:=al.o;have:=bh.o;omega));have bj:=aA (a0.o.far aj (by have:=al.o;have:=bg.o;omega));generalize a5:Gm.reduce G=RG at *;have bl:=aA a5;clear aj a1 a0 a5;go_wp2;refine BM (v:=.tuple #[.agg #[.slice A0 RG.ts.length d0,.slice A1 RG.ns.length d1,.slice A2 RG.rs.length d2,.int .i64 RG.st],.slice A4 ks.length c4,.int .i64 0]) (by simp[results,Tryz.results91,go_sem,g0,g1,g2,g3]) rfl ?_;exact zbs.ok HE.o bf.o (by rw[bl.o];exact bi.o.rd) bj.o.rdOf (A.o _ _ _ _)
theorem Gm.rdG_fit (hf:Gm.Fit G):Gm.Fit (Gm.rdG G):=by
 unfold Gm.rdG;split
 case isFalse=>exact⟨by simp[Gm.gr0],by simp[Gm.gr0],by simp[Gm.gr0],by unfold Gm.In;simp[Gm.gr0]⟩
 case isTrue h =>
  have hr:Gm.right G=true:=by
   cases q:Gm.right G
   ·rw[Gm.rdE_no q]at h;cases h
   ·rfl
  have hp:Gm.Gn true G.rs G.st:=by
   cases q:Gm.tr (Gm.Gn true G.rs G.st)
   ·rw[Gm.rdE_empty hr q]at h;cases h
   ·exact Gm.tr_iff.1 q
  have aa:=Gm.right_ok.1 hr;have ad:=Gm.olds_le aa;have ae:=(Gm.nons_iff G).1 aa.n;have ab:∀ {l:Int},l∈Gm.olds G->Gm.In (Gm.pos (Gm.olds G) l):=fun hl=>by have:=Gm.pos_lt hl;unfold Gm.In;omega
  refine⟨hf.t,fun s hs=>?_,fun y hy=>?_,ab (Gm.st_in hp)⟩
  ·obtain⟨l,hl,rfl⟩:=Bi.1 hs
   have:=Gm.olds_lt aa hl
   rw[Ai,Ar (by omega),Bm];exact hf.n _ (Ay _)
  ·obtain⟨x,hx,rfl⟩:=Bi.1 hy;have ac:=hf.r x (Gm.mem_krs.1 hx).1;refine⟨ab (Gm.use_left hx),ac.2.1,fun z hz=>?_⟩;obtain⟨u,hu,rfl⟩:=Bi.1 hz;unfold Gm.re1;by_cases h0:u<0
   ·rw[Ap h0]
    have:=Gm.pos_lt (Gm.use_sym hx hu h0)
    unfold Gm.In;omega
   ·rw[AB h0];exact ac.2.2 u hu
noncomputable def Gm.isB (G:Gm.Gr):Bool:=decide (Gm.rdE G=0)&&Gm.same G (Gm.rdG G)
theorem Gm.rdE_in (G:Gm.Gr):Gm.rdE G=0\/Gm.rdE G=1\/Gm.rdE G=9:=by
 unfold Gm.rdE;split
 ·split
  ·exact .inl rfl
  ·exact .inr (.inr rfl)
 ·exact .inr (.inl rfl)
theorem zke (v:Value) (G:Gm.Gr) (B:Nat) (w:World) (hg:aQ w B v G) (hf:Gm.Fit G) (hB:B<=w.heap.size) :
  Calls Tryz.prog 55 #[v] w fun e w'=>e=.returned (.bool (Gm.isB G))/\Below w.heap.size w w':=by
 have H1:=aA (fun(x:World) (h:Below w.heap.size w x)=>zec v G B x (hg.below h hB) hf (Ag hB h.size));have H2:=aA (fun(x:World) (h:Below w.heap.size w x) (u:Value) (B':Nat) (hu:aQ x B' u (Gm.rdG G)) (ag:B'<=x.heap.size)=>zhL v u G (Gm.rdG G) B B' x (hg.below h hB) hu hf (Gm.rdG_fit hf) (Ag hB h.size) ag);have ah:=Gm.rdE_in G;have HI:Hid (Gm.isB G=(decide (Gm.rdE G=0)&&Gm.same G (Gm.rdG G))):=aA rfl;obtain⟨AT,cT,AN,cN,AR,cR,rfl,_⟩:=hg;have aa:=aA (One.start w #[.slice AT G.ts.length cT,.slice AN G.ns.length cN,.slice AR G.rs.length cR,.int .i64 G.st]);unfold zbs at H1;generalize Gm.rdL G=L at *;generalize Gm.rdE G=er at *;generalize Gm.rdG G=RG at *;clear hf;by_cases he:er=0
 ·have HX:Hid (Gm.isB G=Gm.same G RG):=aA (by rw[HI.o,AJ he];rfl);subst he;clear ah HI
  go_enter Tryz.func55,Tryz.ntmps55
  go_wp2_with fail
  refine(H1.o _ aa.o.below).mono ?_;rintro _ w2 ⟨g,A,c,rfl,ab,ad,d⟩;have ac:=aA (aa.o.on d);have ai:=aA ab;obtain⟨A0,d0,A1,d1,A2,d2,rfl,_⟩:=ab;have ae:=aA (One.start w2 #[.slice A0 RG.ts.length d0,.slice A1 RG.ns.length d1,.slice A2 RG.rs.length d2,.int .i64 RG.st]);have b:=aA (ac.o.on ae.o.below);have x0:=b.o.c 0 _ rfl;have x1:=b.o.c 1 _ rfl;have x2:=b.o.c 2 _ rfl;have x3:=b.o.c 3 _ rfl;have ak:w.heap.size<w2.heap.size:=ac.o.size;clear ad d;go_wp2_with fail
  refine(H2.o _ b.o.below _ w2.heap.size (ai.o.below ae.o.below (Ad _)) ae.o.below.size).mono ?_;rintro _ w4 ⟨rfl,af⟩;have aj:=aA (b.o.on af);clear af x0 x1 x2 x3;go_wp2;go_ret
  exact⟨by rw[HX.o];rfl,aj.o.below⟩
 ·have HX:Hid (Gm.isB G=false):=aA (by rw[HI.o,AM he];rfl);have al:(er==0)=false:=by simpa using he
  clear HI H2
  go_enter Tryz.func55,Tryz.ntmps55
  go_wp2_with fail
  refine(H1.o _ aa.o.below).mono ?_;rintro _ w2 ⟨g,A,c,rfl,ab,ad,d⟩;have ac:=aA (aa.o.on d);obtain⟨A0,d0,A1,d1,A2,d2,rfl,_⟩:=ab;clear ad d;go_wp2;go_ret
  exact⟨by rw[HX.o];rfl,(ac.o.alloc _).below⟩
namespace Au
def rOk (G:Gm.Gr) (r:Int):Bool:=decide (-1<=r)&&decide (r<G.rs.length)
theorem rOk_iff {r:Int}:rOk G r=true ↔ -1<=r/\r<G.rs.length:=by unfold rOk;simp
theorem isI_no {x:It} (h:rOk G x.1=false):isI G x=false:=by
 unfold rOk at h;unfold isI;rw[h];rfl
theorem isI_ok {x:It} (h:rOk G x.1=true):isI G x=(decide (0<=x.2)&&decide (x.2<=(sy G x.1).length)):=by
 unfold rOk at h;unfold isI;rw[h,Cj]
theorem sy_non (h:k<G.rs.length):sy G (k:Int)=(G.rs[k]).r:=by
 unfold sy;rw[AB (by omega),Ai,show((k:Int)).toNat=k by omega,Ar h,Bm]
def nxP (G:Gm.Gr) (x:It):Option Int:=if isI G x=true then nx G x else none
theorem nxP_is {x:It} (h:isI G x=true):nxP G x=nx G x:=by unfold nxP;rw[Ap h]
theorem nx_at {x:It} (h0:0<=x.2) (h1:x.2<(sy G x.1).length):nx G x=some ((sy G x.1).getD x.2.toNat 0):=by
 unfold nx;rw[Ai,Ar (by omega:x.2.toNat<(sy G x.1).length)];rfl
theorem nxP_no {x:It} (h:rOk G x.1=false):nxP G x=none:=by unfold nxP;rw[isI_no h];rfl
theorem nxP_out {x:It} (h:x.2<0\/(sy G x.1).length<=x.2):nxP G x=none:=by
 unfold nxP;split
 ·rename_i hi
  have:=isI_iff.1 hi
  unfold nx;exact B6 (by omega)
 ·rfl
theorem nxP_in {x:It} (hr:rOk G x.1=true) (h0:0<=x.2) (h1:x.2<(sy G x.1).length):nxP G x=some ((sy G x.1).getD x.2.toNat 0):=by
 unfold nxP;rw[Ap (isI_iff.2 ⟨rOk_iff.1 hr,h0,by omega⟩),nx_at h0 h1]
end Au
theorem zde (z:Int) (hz:-9223372036854775808<=z) (aa:z<=9223372036854775807) (w:World) :
  Calls Tryz.prog 142 #[.int .i64 z] w fun e w'=>e=.returned (.int .i64 (-1-z))/\w'=w:=by
 have hs:IntKind.i64.wrap (-1-z) = -1-z:=Cr _ (by omega);clear hz aa
 go_enter Tryz.func142,Tryz.ntmps142
 go_wp2;go_ret
 exact⟨rfl,rfl⟩
theorem zcR (z:Int) (w:World) :
  Calls Tryz.prog 140 #[.int .i64 z] w fun e w'=>e=.returned (.bool (decide (z<0)))/\w'=w:=by
 go_enter Tryz.func140,Tryz.ntmps140
 go_wp2;go_ret
 exact⟨rfl,rfl⟩
def zbR (L:List Int) (w:World) (e:Ending) (w':World):Prop:=∃A c,e=.returned (.tuple #[.slice A L.length c,.bool true])/\L.length<=c/\c<=9223372036854775807/\RdI w' w'.heap.size A L/\Below w.heap.size w w'
theorem zcP (v:Value) (G:Gm.Gr) (B:Nat) (r:Int) (w:World) (hg:aQ w B v G) (hf:Gm.Fit G) (hB:B<=w.heap.size) (hr:Au.rOk G r=true) :
  Calls Tryz.prog 145 #[v,.int .i64 r] w (zbR (Au.sy G r) w):=by
 have hr:=Au.rOk_iff.1 hr;have aa:=hf.s;unfold Gm.In at aa;have HX:=aA (fun w=>zde G.st aa.1 aa.2 w);obtain⟨AT,cT,AN,cN,AR,cR,rfl,⟨ah,ai⟩,⟨aj,ak⟩,⟨al,am⟩,_,_,hR⟩:=hg;have b:=aA (bA.start 26 w #[.slice AT G.ts.length cT,.slice AN G.ns.length cN,.slice AR G.rs.length cR,.int .i64 G.st]);have x2:=b.o.c 2 _ rfl;have x3:=b.o.c 3 _ rfl;clear hf aa;unfold zbR;by_cases h1:r = -1
 ·subst h1;have e:Au.sy G (-1)=[-1-G.st]:=rfl;have HL:=aA (zi9 (w.alloc (.cells #[.slice AT G.ts.length cT,.slice AN G.ns.length cN,.slice AR G.rs.length cR,.int .i64 G.st] 26)) [-1-G.st]);rw[e];clear hr hR e
  go_enter Tryz.func145,Tryz.ntmps145
  go_wp2_with fail
  refine(HX.o _).mono ?_;rintro _ _ ⟨rfl,rfl⟩;go_wp2
  go_ret2
  exact⟨_,_,rfl,by simp,by simp,by simpa[zcf] using HL.o.1,b.o.below.trans (HL.o.2.mono (by simp))⟩
 ·obtain⟨k,rfl⟩:∃k:Nat,r=(k:Int):=⟨r.toNat,by omega⟩
  have ab:k<G.rs.length:=by omega
  obtain⟨g,o,rfl,ad,hc⟩:=hR (by omega);obtain⟨_,⟨A',c',k1,ae,af,ac⟩,_⟩:=hc k ab;have k1:=(b.o.below.cell (p:=⟨g,o+k*3+1,none⟩) (Ao ad hB)).trans k1;have ag:=aA ((ac.below b.o.below hB).more (B':=w.heap.size+1) (by omega));have h2:((k:Int) == -1)=false:=by rw[AY];omega
  have h3:(k:Int)<(G.rs.length:Int):=by omega
  rw[Au.sy_non ab];clear hc ac hR hr h1 HX;generalize (G.rs[k]).r=L at *
  go_enter Tryz.func145,Tryz.ntmps145
  go_wp2
  go_ret2
  exact⟨_,_,rfl,ae,af,by simpa using ag.o,b.o.below⟩
theorem zdX (v:Value) (G:Gm.Gr) (B:Nat) (r:Int) (w:World) (hg:aQ w B v G) (hr:Au.rOk G r=false) :
  Calls Tryz.prog 145 #[v,.int .i64 r] w fun e w'=>e=.returned (.tuple #[.slice none 0 0,.bool false])/\Below w.heap.size w w':=by
 have hr:¬(-1<=r/\r<G.rs.length):=fun h=>by rw[Au.rOk_iff.2 h]at hr;cases hr
 obtain⟨AT,cT,AN,cN,AR,cR,rfl,_,_,⟨ab,ac⟩,_,_,_⟩:=hg;have aa:=aA (bA.start 26 w #[.slice AT G.ts.length cT,.slice AN G.ns.length cN,.slice AR G.rs.length cR,.int .i64 G.st]);have x2:=aa.o.c 2 _ rfl;have h1:(r == -1)=false:=by rw[AY];omega
 by_cases h0:0<=r
 ·have h2:(G.rs.length:Int)<=r:=by omega
  clear hr
  go_enter Tryz.func145,Tryz.ntmps145
  go_wp2
  go_ret2
  exact⟨rfl,aa.o.below⟩
 ·clear hr
  go_enter Tryz.func145,Tryz.ntmps145
  go_wp2
  go_ret2
  exact⟨rfl,aa.o.below⟩
abbrev itV (x:Au.It):Value:=.agg #[.int .i64 x.1,.int .i64 x.2]
theorem zik (v:Value) (G:Gm.Gr) (B:Nat) (x:Au.It) (w:World) (hg:aQ w B v G) (hf:Gm.Fit G) (hB:B<=w.heap.size) :
  Calls Tryz.prog 139 #[v,itV x] w fun e w'=>e=.returned (.bool (Au.isI G x))/\Below w.heap.size w w':=by
 have HG:=aA hg;obtain⟨AT,cT,AN,cN,AR,cR,rfl,_⟩:=hg;have b:=aA (aW.start 26 61 w #[.slice AT G.ts.length cT,.slice AN G.ns.length cN,.slice AR G.rs.length cR,.int .i64 G.st] #[.int .i64 x.1,.int .i64 x.2]);have g0:=b.o.c1 0 _ rfl;have g1:=b.o.c1 1 _ rfl;have g2:=b.o.c1 2 _ rfl;have g3:=b.o.c1 3 _ rfl;have i0:=b.o.c2 0 _ rfl;have i1:=b.o.c2 1 _ rfl;cases hr:Au.rOk G x.1
 ·have HR:=aA (fun y (h:Below w.heap.size w y)=>zdX _ G B x.1 y (HG.o.below h hB) hr);rw[Au.isI_no hr];clear hr hf
  go_enter Tryz.func139,Tryz.ntmps139
  go_wp2_with fail
  refine(HR.o _ b.o.below).mono ?_;rintro _ w2 ⟨rfl,hb⟩;have HB:=aA (b.o.on hb);clear hb g0 g1 g2 g3 i0 i1;go_wp2;go_ret
  exact⟨rfl,HB.o.below⟩
 ·have HR:=aA (fun y (h:Below w.heap.size w y)=>zcP _ G B x.1 y (HG.o.below h hB) hf (Ag hB h.size) hr);unfold zbR at HR;have HI:=aA (Au.isI_ok hr);clear hr hf;generalize Au.sy G x.1=L at *
  go_enter Tryz.func139,Tryz.ntmps139
  go_wp2_with fail
  refine(HR.o _ b.o.below).mono ?_;rintro _ w2 ⟨A,c,rfl,hl,hm,aa,hb⟩;have HB:=aA (b.o.on hb);have j1:=HB.o.c2 1 _ rfl;clear hb aa g0 g1 g2 g3 i0 i1;by_cases h0:0<=x.2
  ·by_cases h1:x.2<=(L.length:Int)
   ·have HE:=aA (show true=Au.isI G x by rw[HI.o,AJ h0,AJ h1];rfl);go_wp2;go_ret
    exact⟨aD HE.o,HB.o.below⟩
   ·have HE:=aA (show false=Au.isI G x by rw[HI.o,AJ h0,AM h1];rfl);have HF:=aA (AM h1);go_wp2;go_ret
    exact⟨aD (HF.o.trans HE.o),HB.o.below⟩
  ·have HE:=aA (show false=Au.isI G x by rw[HI.o,AM h0];rfl);go_wp2;go_ret
   exact⟨aD HE.o,HB.o.below⟩
theorem zcQ (v:Value) (G:Gm.Gr) (B:Nat) (x:Au.It) (w:World) (hg:aQ w B v G) (hf:Gm.Fit G) (hB:B<=w.heap.size) :
  Calls Tryz.prog 95 #[v,itV x] w fun e w'=>e=.returned (.tuple #[.int .i64 ((Au.nxP G x).getD 0),.bool (Au.nxP G x).isSome])/\Below w.heap.size w w':=by
 have HG:=aA hg;obtain⟨AT,cT,AN,cN,AR,cR,rfl,_⟩:=hg;have b:=aA (aW.start 26 61 w #[.slice AT G.ts.length cT,.slice AN G.ns.length cN,.slice AR G.rs.length cR,.int .i64 G.st] #[.int .i64 x.1,.int .i64 x.2]);have g0:=b.o.c1 0 _ rfl;have g1:=b.o.c1 1 _ rfl;have g2:=b.o.c1 2 _ rfl;have g3:=b.o.c1 3 _ rfl;have i0:=b.o.c2 0 _ rfl;have i1:=b.o.c2 1 _ rfl;cases hr:Au.rOk G x.1
 ·have HR:=aA (fun y (h:Below w.heap.size w y)=>zdX _ G B x.1 y (HG.o.below h hB) hr);rw[Au.nxP_no hr];clear hr hf
  go_enter Tryz.func95,Tryz.ntmps95
  go_wp2_with fail
  refine(HR.o _ b.o.below).mono ?_;rintro _ w2 ⟨rfl,hb⟩;have HB:=aA (b.o.on hb);have j1:=HB.o.c2 1 _ rfl;clear hb g0 g1 g2 g3 i0 i1;by_cases h0:x.2<0
  ·go_wp2
   go_ret2
   exact⟨rfl,HB.o.below⟩
  ·have h1:(0:Int)<=x.2:=by omega
   go_wp2
   go_ret2
   exact⟨rfl,HB.o.below⟩
 ·have HR:=aA (fun y (h:Below w.heap.size w y)=>zcP _ G B x.1 y (HG.o.below h hB) hf (Ag hB h.size) hr);unfold zbR at HR;have HO:=aA (Au.nxP_out (G:=G) (x:=x));have HI:=aA (Au.nxP_in hr);clear hr hf;generalize Au.nxP G x=q at *;generalize Au.sy G x.1=L at *
  go_enter Tryz.func95,Tryz.ntmps95
  go_wp2_with fail
  refine(HR.o _ b.o.below).mono ?_;rintro _ w2 ⟨A,c,rfl,hl,hm,aa,hb⟩;have HB:=aA (b.o.on hb);have j1:=HB.o.c2 1 _ rfl;clear hb g0 g1 g2 g3 i0 i1;by_cases h0:x.2<0
  ·obtain rfl:=HO.o (.inl h0);clear HO HI aa;go_wp2
   go_ret2
   exact⟨rfl,HB.o.below⟩
  ·by_cases h1:(L.length:Int)<=x.2
   ·obtain rfl:=HO.o (.inr h1);clear HO HI aa;go_wp2
    go_ret2
    exact⟨rfl,HB.o.below⟩
   ·have HQ:=HI.o (by omega) (by omega);obtain⟨g,o,rfl,ac,hc⟩:=aa (by omega);obtain⟨k,hk⟩:∃k:Nat,x.2=(k:Int):=⟨x.2.toNat,by omega⟩
    rw[hk]at j1 h0 h1 HQ;have ab:k<L.length:=by omega
    have k0:=hc k ab;rw[show((k:Int)).toNat=k by omega]at HQ;generalize L.getD k 0=z at *;have HQ:=aA HQ;clear HO HI hc hk h0 h1;have h0:((k:Int)<0)=False:=eq_false (by omega);go_wp2
    go_ret2
    exact⟨by rw[HQ.o];rfl,HB.o.below⟩
def Au.wlkS (ss:List StT) (q:Int) (sy:List Int):Option Int:=Au.wlk (ss.map (·.2)) q sy
namespace Lk
open Au Gm Go.Mw
theorem zgk {α β:Type}:∀ {K:List α} {E:List β},E.length=K.length->(K.zip E).map (·.2)=E
 | [],[],_=>rfl
 | [],_::_,h=>by cases h
 | _::_,[],h=>by cases h
 | x::K,y::E,h=>by
  rw[List.zip_cons_cons,Bp,zgk (by simpa using h)]
theorem zlu {G:Gr} {K:List (List It)} (hi:Inv G K E) (hE:E.length=K.length) {q j:Nat} (he:Ed E q s j):Au.wlkS (K.zip E) (q:Int) [s]=some (j:Int):=by
 have hj:j<E.length:=by
  have:=(Ba.1 (hi.to he)).1
  omega
 obtain⟨hq,hm⟩:=he
 have hl:zmc (E.getD q []) s=(j:Int):=by
  rw[Ai,Ar hq,Bm];exact zca (keys_nd hi hq) hm
 unfold wlkS;rw[zgk hE];rw[wlk,Ap (by omega),wlk,BZ,hl,Ap (by omega)]
noncomputable def tow (K:List (List It)) (E:List (List (Int×Int))) (q:Nat) (s:Int):Nat:=((Au.wlkS (K.zip E) (q:Int) [s]).getD 0).toNat
theorem zjB {G:Gr} {K:List (List It)} (hi:Inv G K E) (hE:E.length=K.length) {q j:Nat} (he:Ed E q s j):tow K E q s=j:=by
 unfold tow;rw[zlu hi hE he];simp
end Lk
namespace Lk
open Au Gm Go.Mw
section
variable {G:Gr} {K:List (List It)} {E:List (List (Int×Int))}
noncomputable def rowsL (G:Gr) (K:List (List It)):List (List It):=K.map (clo G)
theorem zdq (G:Gr) (K:List (List It)):(rowsL G K).length=K.length:=Bb _
theorem zaS {q:Nat} (hq:q<K.length):(rowsL G K).getD q []=clo G (K.getD q []):=by
 unfold rowsL;rw[Ai,BC,Ai,Ar hq];rfl
theorem zbX {q:Nat} {x:It} (h:x∈(rowsL G K).getD q []):q<K.length/\x∈clo G (K.getD q []):=by
 rcases Bz q K.length with hq|hq
 ·rw[zaS hq]at h;exact⟨hq,h⟩
 ·rw[Ai,B6 (by rw[zdq];exact hq)]at h;cases h
theorem zjA (hi:Inv G K E) (hE:E.length=K.length) (aa:Ok G) {q:Nat} {x:It} (hx:x∈(rowsL G K).getD q []) (hs:nx G x=some s):Ed E q s (tow K E q s)/\K[tow K E q s]?=some (mv G (clo G (K.getD q [])) s):=by
 obtain⟨hq,hx⟩:=zbX hx;obtain⟨j,h1,h2⟩:=hi.edge hE aa hq hx hs;rw[zjB hi hE h1];exact⟨h1,h2⟩
theorem zny (hi:Inv G K E) (hE:E.length=K.length) (aa:Ok G) {q:Nat} {x:It} (hx:x∈(rowsL G K).getD q []) (hs:nx G x=some s):(x.1,x.2+1)∈(rowsL G K).getD (tow K E q s) []:=by
 have h2:=(zjA hi hE aa hx hs).2;have hl:=(Ba.1 h2).1;rw[zaS hl,zaE (hi.its hl)];refine .of _ ?_;rw[Ai,h2,Bm];exact zdG.2 ⟨x,(zbX hx).2,hs,rfl⟩
theorem znl (hi:Inv G K E) {q:Nat} {x:It} (hk:k<G.rs.length) (hx:x∈(rowsL G K).getD q []) (hs:nx G x=some s) (h0:s<0) (hl:(G.rs[k]).l = -1-s):((k:Int),(0:Int))∈(rowsL G K).getD q []:=by
 obtain⟨hq,hx⟩:=zbX hx;rw[zaS hq,zaE (hi.its hq)];exact .on x ((zaE (hi.its hq)).1 hx) s hs h0 k hk hl
structure Done (G:Gr) (K:List (List It)) (E:List (List (Int×Int))) (S:SS):Prop where
 f:Fit (rowsL G K) S
 s:Snd G E (rowsL G K) S
 b:At (rowsL G K) S 0 (-1,0) G.ts.length
 r:∀q i:Nat,ps G (tow K E) (rowsL G K) S (q,i)=S
theorem Done.cls {S:SS} (h:Done G K E S) (hi:Inv G K E) (hE:E.length=K.length) (aa:Ok G):Cls G E (rowsL G K) S :=
 ⟨h.b,fun q i=>zkq (fun _ _ _ _ _ _ he=>(zjB hi hE he).symm) (fun _ _ _ hx hs=>zny hi hE aa hx hs) (fun _ _ _ _ hk hx hs h0 hl=>znl hi hk hx hs h0 hl) h.f (h.r q i)⟩
theorem zlG (q:Nat):((rowsL G K).getD q []).Nodup:=by
 rcases Bz q K.length with hq|hq
 ·rw[zaS hq];exact zgH (zdb _ _)
 ·rw[Ai,B6 (by rw[zdq];exact hq)];exact List.nodup_nil
theorem zlZ {α:Type} {l:List α} (h:l.Nodup) {j:Nat} (hi:i<l.length) (hj:j<l.length) (e:l[i]=l[j]):i=j:=by
 have p:=CN.1 (BU.1 h);rcases Nat.lt_trichotomy i j with k|k|k
 ·exact absurd e (p i j hi hj k)
 ·exact k
 ·exact absurd e.symm (p j i hj hi k)
theorem Done.la {S:SS} (h:Done G K E S) (hi:Inv G K E) (hE:E.length=K.length) (aa:Ok G) {q:Nat} {x:It} (hx:((rowsL G K).getD q [])[i]?=some x):(S.getD q []).getD i 0=laN G E q x:=by
 refine CM fun t=>Bn.2 ?_;rw[zhx aa,zmd aa h.s (h.cls hi hE aa)]
 constructor
 ·intro k;exact⟨t,rfl,i,hx,k⟩
 ·rintro⟨n,e,j,e1,e2⟩;obtain rfl:t=n:=by omega
  obtain⟨h1,h2⟩:=Ba.1 hx;obtain⟨h3,h4⟩:=Ba.1 e1
  have:i=j:=zlZ (zlG q) h1 h3 (h2.trans h4.symm)
  rw[this];exact e2
def isC (G:Gr) (x:It):Bool:=(nx G x).isNone&&decide (0<=x.1)
def zdR (G:Gr) (l:List It) (row:List Nat) (n:Nat):List (Int×Int):=(List.range n).filterMap fun i=>if isC G (l.getD i (0,0))=true then some ((l.getD i (0,0)).1,(row.getD i 0:Int)) else none
theorem zgc (l:List It) (row:List Nat) (n:Nat):zdR G l row (n+1)=zdR G l row n++(if isC G (l.getD n (0,0))=true then [((l.getD n (0,0)).1,(row.getD n 0:Int))] else []):=by
 unfold zdR;rw[Cp,List.filterMap_append]
 congr 1
 split <;> simp_all
theorem zhZ (l:List It) (row:List Nat) (f:It->Nat) (h:∀i x,l[i]?=some x->row.getD i 0=f x):zdR G l row l.length=(l.filter (isC G)).map fun x=>(x.1,(f x:Int)):=by
 have key:∀n,n<=l.length->zdR G l row n=((l.take n).filter (isC G)).map fun x=>(x.1,(f x:Int)):=by
  intro n;induction n with
  | zero=>intro _;rfl
  | succ n ih =>
   intro hn;have e:l[n]?=some l[n]:=Ar (by omega);rw[zgc,ih (by omega),AO (by omega),CF,AW,h n _ e]
   congr 1
   rw[Ai,e,Bm,Cy];split <;> rfl
 rw[key _ (Ad _),Bo]
theorem zmE (p:Nat->Bool) (n:Nat):Srt (((List.range n).filter p).map (en G)):=by
 unfold Srt;rw[Da];refine((zbn n).filter _).imp fun {a b} k=>?_;rw[lt_iff];unfold en;simp only;omega
theorem zl7 {S:SS} (h:Done G K E S) (hi:Inv G K E) (hE:E.length=K.length) (aa:Ok G) {q:Nat} (hq:q<K.length):zdR G (clo G (K.getD q [])) (S.getD q []) (clo G (K.getD q [])).length=lkRow G K E q:=by
 rw[zhZ _ _ (laN G E q) fun i x hx=>h.la hi hE aa (by rw[zaS hq];exact hx)]
 have e1:lkRow G K E q=(((List.range G.rs.length).filter fun k=>tr (en G k∈clo G (K.getD q []))).map (en G)).map fun x=>(x.1,(laN G E q x:Int)):=by
  unfold lkRow lkAt;rw[DV];generalize List.range G.rs.length=r;induction r with
  | nil=>rfl
  | cons k r ih =>
   rw[List.filterMap_cons,Cy];by_cases c:tr (en G k∈clo G (K.getD q []))=true
   ·rw[Ap c,Ap c];simp only[Bp,Function.comp];rw[ih];rfl
   ·rw[AB c,AB c];exact ih
 rw[e1]
 congr 1
 refine zcV ((zdb _ _).filter _) (zmE _ _) fun z=>?_;rw[B7,Bi]
 constructor
 ·rintro⟨hz,hc⟩;unfold isC at hc;rw[AQ,Ca,Option.isNone_iff_eq_none]at hc;have hI:=isI_iff.1 (clo_is hz)
  have hn:(sy G z.1).length<=z.2.toNat:=by
   unfold nx at hc;exact List.getElem?_eq_none_iff.1 hc.1
  have he:en G z.1.toNat=z:=by
   unfold en;rw[Br hc.2];exact Ew rfl (by simp only;omega)
  refine⟨z.1.toNat,B7.2 ⟨BF.2 (by omega),tr_iff.2 (by rw[he];exact hz)⟩,he⟩
 ·rintro⟨k,hk,rfl⟩;obtain⟨h1,h2⟩:=B7.1 hk;refine⟨tr_iff.1 h2,?_⟩;unfold isC;rw[AQ,Ca,Option.isNone_iff_eq_none];unfold en nx;refine⟨?_,by simp only;omega⟩;simp only[BZ];exact B6 (Ad _)
end
end Lk
end Go.Proofs.YtjjbaehamplnaaaGreat
namespace Go.Proofs.YtjjbaehamplnaaaGreat
open Go.RowKit Go.ChangeShapes Go.WideShapes Go.ChangeAt
def RdU (w:World) (B:Nat) (A:Option Addr) (zs:List Int):Prop :=
 zs.length≠0->∃g o,A=some ⟨g,o,none⟩/\g<B/\∀j,j<zs.length->w.cell? ⟨g,o+j,none⟩=some (.int .u32 (zs.getD j 0))
theorem RdU.nil (w:World) (B:Nat) (A:Option Addr):RdU w B A []:=fun h=>absurd rfl h
theorem RdU.keep (h:RdU w B A zs) (hk:∀g o,g<B->w'.cell? ⟨g,o,none⟩=w.cell? ⟨g,o,none⟩):RdU w' B A zs:=fun hn=>by
 obtain⟨g,o,e,hg,hc⟩:=h hn;exact⟨g,o,e,hg,fun j hj=>(hk _ _ hg).trans (hc j hj)⟩
theorem RdU.more (h:RdU w B A zs) (hB:B<=B'):RdU w B' A zs:=fun hn=>by
 obtain⟨g,o,e,hg,hc⟩:=h hn;exact⟨g,o,e,by omega,hc⟩
theorem RdU.below (h:RdU w B A zs) (hb:Below B' w w') (hB:B<=B'):RdU w' B A zs :=
 h.keep fun g o hg=>hb.cell (p:=⟨g,o,none⟩) (Ao hg hB)
theorem RdU.drewN (h:RdU w B A zs) (n:Nat):RdU (w.drewN n) B A zs:=h
theorem RdU.drew (h:RdU w B A zs):RdU w.drew B A zs:=h
theorem RdU.alloc (h:RdU w B A zs) (hB:B<=w.heap.size) (o:Obj):RdU (w.alloc o) B A zs :=
 h.keep fun g i hg=>Ee w o ⟨g,i,none⟩ (Ao hg hB)
theorem RdU.grown (h:RdU w B A zs) (hg:w.grownBy w' (some g)) (hB:B<=g) (hs:B<=w.heap.size):RdU w' B A zs :=
 h.keep fun p o hp=>Ch (hg.block p (by omega) (fun e=>by injection e with e;omega))
theorem RdU.take {w:World} {B:Nat} {A:Option Addr} {zs:List Int} (h:RdU w B A zs) (k:Nat):RdU w B A (zs.take k):=fun hn=>by
 have hl:(zs.take k).length<=zs.length:=by rw[Bc];omega
 obtain⟨g,o,e,hg,hc⟩:=h (by omega);refine⟨g,o,e,hg,fun j hj=>?_⟩;rw[hc j (by omega),L.gd_lt hj,L.gd_lt (by omega:j<zs.length),CW]
theorem RdU.cell {o:Nat} (h:RdU w B (some ⟨g,o,none⟩) zs) (j:Nat) (hj:j<zs.length):w.cell? ⟨g,o+j,none⟩=some (.int .u32 (zs.getD j 0)):=by
 obtain⟨g',o',e,_,hc⟩:=h (by omega);injection e with e;injection e with e1 e2;subst e1 e2;exact hc j hj
def UBU (w:World) (g:Nat) (ls:List Int):Prop:=w.heap[g]?=some (.cells (ls.map (Value.int .u32)).toArray 104 (0,0))
theorem UBU.lt (h:UBU w g ls):g<w.heap.size:=by
 rcases Bz g w.heap.size with aa|hge
 ·exact aa
 ·unfold UBU at h;rw[DU hge]at h;cases h
theorem UBU.cell (h:UBU w g ls) (i:Nat) (hi:i<ls.length):w.cell? ⟨g,i,none⟩=some (.int .u32 (ls.getD i 0)):=by
 rw[Aw w g i _ _ _ h];simp[hi,List.getD]
theorem UBU.frozen (h:UBU w g ls) (i:Nat):w.frozen? ⟨g,i,none⟩=false:=AD w g i _ _ h
theorem UBU.drewN (h:UBU w g ls) (n:Nat):UBU (w.drewN n) g ls:=h
theorem UBU.drew (h:UBU w g ls):UBU w.drew g ls:=h
theorem UBU.alloc (h:UBU w g ls) (o:Obj):UBU (w.alloc o) g ls:=(BI w o g h.lt).trans h
theorem UBU.set_ (h:UBU w g ls) (i:Nat) (z:Int):UBU (w.setCell ⟨g,i,none⟩ (.int .u32 z)) g (ls.set i z):=by
 unfold UBU at h ⊢;rw[AP w g i _ _ _ h]
 congr 2
 apply Ef;simp[Cs]
theorem UBU.far (h:UBU w g ls) (hp:g≠p.block) (u:Value):UBU (w.setCell p u) g ls:=(AH w p u g hp).trans h
theorem UBU.below (h:UBU w g ls) (hb:Below B w w') (hg:g<B):UBU w' g ls:=(hb.block g hg).trans h
theorem UBU.grown {row:Option Nat} (h:UBU w g ls) (hb:w.grownBy w' row) (hg:some g≠row):UBU w' g ls:=(hb.block g h.lt hg).trans h
theorem UBU.mid {o:Nat} {pre xs post:List Int} (h:UBU w g (pre++xs++post)) (ho:o=pre.length) (k:Nat) (hk:k<xs.length):w.cell? ⟨g,o+k,none⟩=some (.int .u32 (xs.getD k 0)):=by
 rw[h.cell (o+k) (by simp;omega),ho,L.mid_getD pre xs post k hk]
theorem UBU.rd (h:UBU w g ls) (o n:Nat) (hn:o+n<=ls.length) (hB:g<B):RdU w B (some ⟨g,o,none⟩) ((ls.drop o).take n):=fun _=>by
 refine⟨g,o,rfl,hB,fun j hj=>?_⟩;have aa:j<n:=by rw[Bc]at hj;omega
 rw[h.cell (o+j) (by omega),L.gd_lt hj,L.gd_lt (by omega:o+j<ls.length),CW,Dl]
theorem UBU.rd0 (h:UBU w g ls) (hB:g<B):RdU w B (some ⟨g,0,none⟩) ls:=by
 have:=h.rd 0 ls.length (by omega) hB;simpa using this
theorem znH:(Tryz.prog.info? 104).map (fun i=>(i.zero,i.size,i.bytes))=some (some (.int .u32 0),1,4):=by kernel_rfl
theorem zcn (n:Nat):(List.replicate n (0:Int)).map (Value.int .u32)=List.replicate n (.int .u32 0):=by simp
theorem zd5 (h:w.ownsRow base 104 1 (.slice (some ⟨g,0,none⟩) n n) n (ls.map (Value.int .u32))):UBU w g ls:=by
 rcases h.2 with⟨he,_⟩|⟨g',cap,cur,he,hb,hg,hn,hm,hs,ht⟩
 ·cases he
 ·injection he with e1 e2 e3;injection e1 with e1;injection e1 with e1;subst e1 e3;unfold UBU;rw[hg,<-ht,Cb (by simp[hs])]
end Go.Proofs.YtjjbaehamplnaaaGreat
namespace Go.Proofs.YtjjbaehamplnaaaGreat
open Go.RowKit
namespace S
def bit (n:Int):Nat:=if 0<=n/\n<=31 then 2 ^ n.toNat else 0
def of (l:List Int):Nat:=l.foldl (fun s n=>s ||| bit n) 0
theorem bit_lt (n:Int):bit n<4294967296:=by
 unfold bit;split
 ·have:2 ^ n.toNat<=2 ^ 31:=B3 (by decide) (by omega)
  omega
 ·omega
theorem bit_nat (h:k<=31):bit k=2 ^ k:=by unfold bit;rw[Ap (by omega)];simp
theorem bit_neg {n:Int} (h:n<0):bit n=0:=by unfold bit;rw[AB (by omega)]
theorem bit_big {n:Int} (h:31<n):bit n=0:=by unfold bit;rw[AB (by omega)]
theorem znx {a:Nat} (ha:a<4294967296) (hb:b<4294967296):a ||| b<4294967296:=by
 have:=Nat.or_lt_two_pow (n:=32) (x:=a) (y:=b) (by omega) (by omega);omega
theorem of_snoc (l:List Int) (n:Int):of (l++[n])=of l ||| bit n:=by unfold of;rw[List.foldl_append];rfl
theorem of_lt (l:List Int):of l<4294967296:=by
 unfold of
 suffices ∀(l:List Int) (a:Nat),a<4294967296->l.foldl (fun s n=>s ||| bit n) a<4294967296 from this l 0 (by omega)
 intro l;induction l with
 | nil=>intro a h;exact h
 | cons n r ih=>intro a h;exact ih _ (znx h (bit_lt n))
theorem of_one (n:Int):of [n]=bit n:=by unfold of;simp
end S
theorem zha (n:Int) (h:0<=n):(2:Int) ^ (min n.toNat 32) % 4294967296=(S.bit n:Int):=by
 by_cases hb:n<=31
 ·obtain⟨k,rfl⟩:=Int.eq_ofNat_of_zero_le h;rw[S.bit_nat (by omega),show min (k:Int).toNat 32=k by omega];have hp:2 ^ k<=2 ^ 31:=B3 (by decide) (by omega);have e:(2:Int) ^ k=((2 ^ k:Nat):Int):=by simp
  rw[e];generalize 2 ^ k=a at *;omega
 ·rw[S.bit_big (by omega),show min n.toNat 32=32 by omega];decide
theorem zgI (n:Int) (w:World) :
  Calls Tryz.prog 235 #[.int .i64 n] w fun e w'=>e=.returned (.int .u32 (S.bit n))/\w'=w:=by
 go_enter Tryz.func235,Tryz.ntmps235
 by_cases h:n<0
 ·have e:=aA (S.bit_neg h);go_wp2;go_ret
  rw[e.o];exact⟨rfl,rfl⟩
 ·have h':0<=n:=by omega
  have e:=aA (zha n h');go_wp2;go_ret
  exact⟨aP e.o,rfl⟩
theorem zkj (A:Option Addr) (c B:Nat) (l:List Int) (w:World) (hr:RdI w B A l) (hn:l.length<=9223372036854775807) :
  Calls Tryz.prog 234 #[.slice A l.length c] w fun e w'=>e=.returned (.int .u32 (S.of l))/\∃n,w'=w.drewN n:=by
 go_enter Tryz.func234,Tryz.ntmps234
 go_wp2;go_loopw [8,3] (fun vi vs wr=>∃(k:Nat) (n:Nat),k<=l.length/\vi=.int .i64 k/\vs=.int .u32 (S.of (l.take k))/\wr=w.drewN n) (fun vi _ _=>l.length-(intOf vi).toNat)
 case atStart=>exact⟨0,0,by omega,rfl,rfl,rfl⟩
 case round =>
  obtain⟨k,n,hk,rfl,rfl,rfl⟩:=hrel;by_cases aa:k<l.length
  ·obtain⟨g,o,rfl,_,hc⟩:=hr (by omega);have ab:=hc k aa;have ac:=aA (show S.of (l.take k) ||| S.bit (l.getD k 0)=S.of (l.take (k+1)) by rw[L.take_snoc l k aa,S.of_snoc]);have e:=aA (EM (S.of (l.take k)) (S.bit (l.getD k 0)) (S.of_lt _) (S.bit_lt _));generalize l.getD k 0=z at *;clear hc;go_wp2_with fail
   refine(zgI _ _).mono ?_;rintro _ _ ⟨rfl,rfl⟩;go_wp2_with (rw[e.o,ac.o])
   go_roundw
   case rel=>exact⟨k+1,_,by omega,by go_num,rfl,rfl⟩
   case measure=>simp[intOf];omega
  ·obtain rfl:k=l.length:=by omega
   rw[Bo];go_wp2;go_ret
   exact⟨rfl,_,rfl⟩
end Go.Proofs.YtjjbaehamplnaaaGreat
namespace Go.Proofs.YtjjbaehamplnaaaGreat
open Go.RowKit Go.ChangeShapes Go.WideShapes Go.ChangeAt
section
variable {α:Type} {m:Nat} {f:α->List Value} {T:TypeId}
theorem zic {o:Oper} {a:Act} {Q:Exit->Act->World->Prop} {K:Act->World->Prop} (s x:Operand) (t:TypeId) (ho:o.op=.call {callee:=.builtin .append,args:=#[s,x],argTypes:=#[t,t]}) (ht:Tryz.prog.underlying t=some (.slice T)) (z:Value) (bytes:Nat) (aa:(Tryz.prog.info? T).map (fun i=>(i.zero,i.size,i.bytes))=some (some z,m,bytes)) (ad:z.cells.size=m) (hm:0<m) (ae:bytes<=100) (hf:∀x,(f x).length=m) (h1:∀x,∀u∈f x,u.oneCell'=true) (base:Nat) (v:Value) (xs:List α) (hs:a.eval s=v) (ac:aK T m f w base v xs) (g c:Nat) (y:α) (hx:a.eval x=.slice (some ⟨g,0,none⟩) 1 c) (hz:∀j u,(f y)[j]?=some u->w.cell? ⟨g,j,none⟩=some u) (af:xs.length<=1000000) (ab:base<=w.heap.size) (hK:∀v' w',aK T m f w' base v' (xs++[y])->w.grownBy w' v.ownBlock->K (a.put o.dst v') w') :
  o.wp Tryz.prog a w K Q:=by
 obtain⟨i,hi,ag,ah,ai⟩:=CD aa;refine D5 w s x t ho base T i z m bytes ht hi ag ah ai ad hm v xs.length (xs.flatMap f) hs ac ⟨g,0,none⟩ 1 c (f y) hx (by rw[hf,Em]) ?_ (h1 y) (by unfold maxLen;omega) (by have:=En (show xs.length+1<=1000001 by omega) ae;omega) ab fun v' w' h2 h3 _=>hK v' w' ?_ h3
 ·intro j u hj;rw[Go.WideShapes.add_plain,Bu];exact hz j u hj
 ·unfold aK;rw[AU,BX,Cc];exact h2
theorem zdV {rest:List Oper} {o:Oper} {a:Act} {Q:Exit->Act->World->Prop} (ad:o.guard=none) (s x:Operand) (t:TypeId) (ho:o.op=.call {callee:=.builtin .append,args:=#[s,x],argTypes:=#[t,t]}) (ht:Tryz.prog.underlying t=some (.slice T)) (z:Value) (bytes:Nat) (aa:(Tryz.prog.info? T).map (fun i=>(i.zero,i.size,i.bytes))=some (some z,m,bytes)) (ae:z.cells.size=m) (hm:0<m) (af:bytes<=100) (hf:∀x,(f x).length=m) (h1:∀x,∀u∈f x,u.oneCell'=true) (base:Nat) (v:Value) (xs:List α) (hs:a.eval s=v) (ac:aK T m f w base v xs) (g c:Nat) (y:α) (hx:a.eval x=.slice (some ⟨g,0,none⟩) 1 c) (hz:∀j u,(f y)[j]?=some u->w.cell? ⟨g,j,none⟩=some u) (ag:xs.length<=1000000) (ab:base<=w.heap.size) (hK:∀v' w',aK T m f w' base v' (xs++[y])->w.grownBy w' v.ownBlock->(v'.ownBlock=v.ownBlock\/v'.ownBlock=some w.heap.size)->wpList Tryz.prog ops Q rest (a.put o.dst v') w') :
  wpList Tryz.prog ops Q (o::rest) a w:=by
 obtain⟨i,hi,ah,ai,aj⟩:=CD aa;refine wpList_append_own_at w ad s x t ho base T i z m bytes ht hi ah ai aj ae hm v xs.length (xs.flatMap f) hs ac ⟨g,0,none⟩ 1 c (f y) hx (by rw[hf,Em]) ?_ (h1 y) (by unfold maxLen;omega) (by have:=En (show xs.length+1<=1000001 by omega) af;omega) ab fun v' w' h2 h3 _ h5=>hK v' w' ?_ h3 h5
 ·intro j u hj;rw[Go.WideShapes.add_plain,Bu];exact hz j u hj
 ·unfold aK;rw[AU,BX,Cc];exact h2
end
end Go.Proofs.YtjjbaehamplnaaaGreat
namespace Go.Proofs.YtjjbaehamplnaaaGreat
open Go.RowKit
theorem zkL:(match Tryz.prog.underlying 61 with|some (.array _ _)|some (.struct _)=>true|_=>false)=true:=by rw[Tryz.underlying61]
theorem itK:Maps.Keyed Tryz.prog 61:=Maps.Keyed.of_law (deep_law (m:=2) (by omega) (by kernel_rfl) (by kernel_rfl) zkL)
theorem zmj (x:Au.It) (h:Gm.In x.1/\Gm.In x.2):∃l,keyOf Tryz.prog 61 (itV x)=some l:=by
 have h1:(Lit.int .i64 x.1).wf=true:=Dt (by unfold Gm.In at h;omega);have h2:(Lit.int .i64 x.2).wf=true:=Dt (by unfold Gm.In at h;omega);have hk:Tryz.prog.keyType 61=true:=by kernel_rfl
 have hc:Tryz.prog.cellsOf 61=2:=by kernel_rfl
 have aa:Tryz.prog.cellsOf 3=1:=by kernel_rfl
 unfold keyOf;rw[Tryz.underlying61];have ab:(itV x).formed Tryz.prog 61=true:=by simp[Value.formed,Tryz.underlying61,hc]
 have hl:∃ls,Tryz.prog.keyLits (Tryz.prog.types.size+1) 61 (itV x).cells.toList=some ls:=by
  obtain⟨n,hn⟩:∃n,Tryz.prog.types.size=n+1:=⟨Tryz.prog.types.size-1,by have:0<Tryz.prog.types.size:=Cq (by kernel_rfl);omega⟩
  rw[hn];simp[Program.keyLits,Tryz.underlying61,Tryz.underlying3,hc,aa,Value.cells,h1,h2]
 obtain⟨ls,ac⟩:=hl;simp only[hk,ab,ac];exact⟨_,rfl⟩
def itE:Mw.Enc Tryz.prog 61 Au.It where
 enc x:=itV x
 ok x:=Gm.In x.1/\Gm.In x.2
 key x h:=zmj x h
 inj x y _ _ h:=by
  injection h with h;simp at h;exact Ew h.1 h.2
theorem zjO:(Tryz.prog.info? 61).map (fun i=>(i.zero,i.size,i.bytes))=some (some (.agg #[.int .i64 0,.int .i64 0]),2,16):=by kernel_rfl
theorem zdB (x:Int×Int):∀u∈prF x,u.oneCell'=true:=fun u hu=>by
 simp[prF]at hu;rcases hu with rfl|rfl <;> rfl
section
variable {α:Type} {m:Nat} {f:α->List Value}
def RdM (m:Nat) (f:α->List Value) (w:World) (B:Nat) (A:Option Addr) (rows:List (List α)):Prop :=
 rows.length≠0->∃g o,A=some ⟨g,o,none⟩/\g<B/\∀i (h:i<rows.length),∃A' c',w.cell? ⟨g,o+i,none⟩=some (.slice A' rows[i].length c')/\rows[i].length<=c'/\c'<=9223372036854775807/\RdQ m f w B A' rows[i]
theorem RdM.nil (w:World) (B:Nat) (A:Option Addr):RdM m f w B A []:=fun h=>absurd rfl h
theorem RdM.keep {w w':World} {B:Nat} {A:Option Addr} {rows:List (List α)} (h:RdM m f w B A rows) (hk:∀g o,g<B->w'.cell? ⟨g,o,none⟩=w.cell? ⟨g,o,none⟩):RdM m f w' B A rows:=fun hn=>by
 obtain⟨g,o,e,hg,hc⟩:=h hn;refine⟨g,o,e,hg,fun i hi=>?_⟩;obtain⟨A1,c1,h1,h2,h3,h4⟩:=hc i hi;exact⟨A1,c1,(hk _ _ hg).trans h1,h2,h3,h4.keep hk⟩
theorem RdM.below {rows:List (List α)} (h:RdM m f w B A rows) (hb:Below B' w w') (hB:B<=B'):RdM m f w' B A rows :=
 h.keep fun g o hg=>hb.cell (p:=⟨g,o,none⟩) (Ao hg hB)
theorem RdM.more {w:World} {B B':Nat} {A:Option Addr} {rows:List (List α)} (h:RdM m f w B A rows) (hB:B<=B'):RdM m f w B' A rows:=fun hn=>by
 obtain⟨g,o,e,hg,hc⟩:=h hn;refine⟨g,o,e,by omega,fun i hi=>?_⟩;obtain⟨A1,c1,h1,h2,h3,h4⟩:=hc i hi;exact⟨A1,c1,h1,h2,h3,h4.more hB⟩
def zdY (T:TypeId) (m:Nat) (f:α->List Value) (w:World) (base N:Nat) (A:Option Addr) (xs:List α):Prop :=
 xs.length≠0->∃(g:Nat) (cur:Array Value),A=some ⟨g,0,none⟩/\base<=g/\g<N/\w.heap[g]?=some (.cells cur T (0,0))/\∀i (h:i<xs.length) j u,(f xs[i])[j]?=some u->cur[i*m+j]?=some u
section
variable {T:TypeId} {w w':World} {base base' N N':Nat} {A:Option Addr} {xs:List α}
theorem zdY.nil (T:TypeId) (w:World) (base N:Nat) (A:Option Addr):zdY T m f w base N A []:=fun h=>absurd rfl h
theorem zdY.keep (h:zdY T m f w base N A xs) (hk:∀g cur,base<=g->g<N->w.heap[g]?=some (.cells cur T (0,0))->w'.heap[g]?=some (.cells cur T (0,0))):zdY T m f w' base N A xs:=fun hn=>by
 obtain⟨g,cur,e,hb,hN,hh,hc⟩:=h hn;exact⟨g,cur,e,hb,hN,hk g cur hb hN hh,hc⟩
theorem zdY.more (h:zdY T m f w base N A xs) (hN:N<=N'):zdY T m f w base N' A xs:=fun hn=>by
 obtain⟨g,cur,e,hb,h1,hh⟩:=h hn;exact⟨g,cur,e,hb,by omega,hh⟩
theorem zdY.less (h:zdY T m f w base N A xs) (hb:base'<=base):zdY T m f w base' N A xs:=fun hn=>by
 obtain⟨g,cur,e,h1,hN,hh⟩:=h hn;exact⟨g,cur,e,by omega,hN,hh⟩
theorem zdY.rd (h:zdY T m f w base N A xs):RdQ m f w N A xs:=fun hn=>by
 obtain⟨g,cur,e,hb,hN,hh,hc⟩:=h hn;refine⟨g,0,e,hN,fun i hi j u hu=>?_⟩;rw[Aw w g _ _ _ _ hh,Bu];exact hc i hi j u hu
theorem UBQ.rowG (h:UBQ T f w g xs) (hf:∀x,(f x).length=m) (hb:base<=g) (hN:g<N):zdY T m f w base N (some ⟨g,0,none⟩) xs:=fun _=>by
 refine⟨g,_,rfl,hb,hN,h,fun i hi j u hu=>?_⟩;have hj:j<m:=by rw[<-hf xs[i]];exact(Ba.1 hu).1
 rw[Am,qat hf xs i j hi hj];exact hu
theorem aK.rowG {c:Nat} (h:aK T m f w base (.slice A n c) xs) (hf:∀x,(f x).length=m):zdY T m f w base w.heap.size A xs:=fun hn=>by
 rcases h.2 with⟨e,h0⟩|⟨g,cap,cur,e,hb,hg,h1,hm,hs,ht⟩
 ·exact absurd h0 hn
 ·injection e with e1 e2 e3;refine⟨g,cur,e1,hb,(Ac.1 hg).1,hg,fun i hi j u hu=>?_⟩;have hj:j<m:=by rw[<-hf xs[i]];exact(Ba.1 hu).1
  have h2:(cur.toList.take (xs.length*m))[i*m+j]?=(xs.flatMap f)[i*m+j]?:=by rw[ht]
  have aa:i*m+j<xs.length*m:=by
   have:=DK m (show i+1<=xs.length by omega)
   rw[Nat.add_mul,Em]at this;omega
  rw[CP aa,D9,qat hf xs i j hi hj]at h2;rw[h2];exact hu
end
abbrev RW (α:Type):=List α×Option Addr×Nat
def rwF (r:RW α):List Value:=[.slice r.2.1 r.1.length r.2.2]
theorem zao (r:RW α):(rwF r).length=1:=rfl
theorem zgO (r:RW α):∀u∈rwF r,u.oneCell'=true:=fun u hu=>by
 simp[rwF]at hu;subst hu;rfl
def bL (T:TypeId) (m:Nat) (f:α->List Value) (w:World) (base N:Nat) (r:RW α):Prop:=r.1.length<=r.2.2/\r.2.2<=9223372036854775807/\zdY T m f w base N r.2.1 r.1
theorem bL.nil (T:TypeId) (w:World) (base N:Nat):bL T m f w base N (([],none,0):RW α):=⟨Ad _,by simp,zdY.nil _ _ _ _ _⟩
theorem bL.keep {T:TypeId} {w w':World} {base N:Nat} {r:RW α} (h:bL T m f w base N r) (hk:∀g cur,base<=g->g<N->w.heap[g]?=some (.cells cur T (0,0))->w'.heap[g]?=some (.cells cur T (0,0))):bL T m f w' base N r:=⟨h.1,h.2.1,h.2.2.keep hk⟩
theorem bL.below {T:TypeId} {r:RW α} (h:bL T m f w base N r) (hb:Below B w w') (hN:N<=B):bL T m f w' base N r:=h.keep fun g _ _ hg hc=>(hb.block g (Ao hg hN)).trans hc
theorem bL.more {T:TypeId} {w:World} {base N N':Nat} {r:RW α} (h:bL T m f w base N r) (hN:N<=N'):bL T m f w base N' r:=⟨h.1,h.2.1,h.2.2.more hN⟩
theorem bL.less {T:TypeId} {w:World} {base base' N:Nat} {r:RW α} (h:bL T m f w base N r) (hb:base'<=base):bL T m f w base' N r:=⟨h.1,h.2.1,h.2.2.less hb⟩
theorem RdM.of {T:TypeId} {rs:List (RW α)} (hB:g<B) (hc:∀i (h:i<rs.length),w.cell? ⟨g,i,none⟩=some (.slice rs[i].2.1 rs[i].1.length rs[i].2.2)) (hr:∀r∈rs,bL T m f w base B r):RdM m f w B (some ⟨g,0,none⟩) (rs.map (·.1)):=fun _=>by
 refine⟨g,0,rfl,hB,fun i hi=>?_⟩;have aa:i<rs.length:=by simpa using hi
 obtain⟨h1,h2,h3⟩:=hr _ (Ay aa);rw[C3];exact⟨rs[i].2.1,rs[i].2.2,by rw[Bu];exact hc i aa,h1,h2,h3.rd⟩
theorem UBQ.rdM {T T2:TypeId} {rs:List (RW α)} (h:UBQ T rwF w g rs) (hB:g<B) (hr:∀r∈rs,bL T2 m f w base B r):RdM m f w B (some ⟨g,0,none⟩) (rs.map (·.1)) :=
 RdM.of hB (fun i hi=>by have:=h.cell zao i 0 hi _ rfl;rw[Dd,Cd]at this;exact this) hr
theorem znj (xs:List (RW α)) (i:Nat) (y:RW α):(xs.flatMap rwF).set i (.slice y.2.1 y.1.length y.2.2)=(xs.set i y).flatMap rwF:=by
 induction xs generalizing i with
 | nil=>simp
 | cons x r ih =>
  cases i with
  | zero=>rfl
  | succ i =>
   show _::(r.flatMap rwF).set i _=_::(r.set i y).flatMap rwF
   rw[ih i]
theorem UBQ.set1 {T:TypeId} {xs:List (RW α)} (h:UBQ T rwF w g xs) (i:Nat) (y:RW α) (A:Option Addr) (n c:Nat) (h1:y.2.1=A) (h2:y.1.length=n) (h3:y.2.2=c):UBQ T rwF (w.setCell ⟨g,i,none⟩ (.slice A n c)) g (xs.set i y):=by
 subst h1 h2 h3;unfold UBQ at h ⊢;rw[AP _ g _ _ _ _ h]
 congr 2
 apply Ef;rw[<-znj xs i y];simp
end
end Go.Proofs.YtjjbaehamplnaaaGreat
namespace Go.Mw
open Go.RowKit Go.Maps
section
variable {P:Program} {kt:TypeId} {κ:Type} {E:Enc P kt κ} {w:World} {b:Nat} {l:List (κ×Value)}
def MapU (E:Enc P kt κ) (w:World) (b:Nat) (l:List (κ×Value)):Prop :=
 ∃es clock,w.heap[b]?=some (.map es clock)/\es.toList.map (fun e=>(e.key,e.val))=l.map (fun p=>(E.enc p.1,p.2))/\(∀p∈l,E.ok p.1)/\(l.map Prod.fst).Nodup/\(∀e∈es.toList,e.born<clock)/\(es.toList.map (·.born)).Nodup
theorem MapU.is (h:MapU E w b l):MapIs E w b l:=by
 obtain⟨es,clock,h1,h2,h3,h4,_⟩:=h;exact⟨es,clock,h1,h2,h3,h4⟩
theorem MapU.lt (h:MapU E w b l):b<w.heap.size:=h.is.lt
theorem MapU.block (h:MapU E w b l) (hg:w'.heap[b]?=w.heap[b]?):MapU E w' b l:=by
 obtain⟨es,clock,hb,r⟩:=h;exact⟨es,clock,hg.trans hb,r⟩
variable [DecidableEq κ]
def zmY (E:Enc P kt κ) (t:TypeId) (w:World) (b:Nat) (l:List (κ×Value)) (x:κ) (c:Value):Prop :=
 b<w.heap.size/\∀w2:World,w2.heap[b]?=w.heap[b]?->∀v:Value,∃w3,(Instr.entryStore t (.map (some b)) c v).run P w2=.ok () w3/\MapU E w3 b (putA l x v)/\w2.grownBy w3 (some b)
theorem zkX {es:List MapEntry} {e:MapEntry} {j:Nat} (hn:(es.map (·.born)).Nodup) (h:es[j]?=some e):es.findIdx? (fun x=>(x.born:Int)==(e.born:Int))=some j:=by
 induction es generalizing j with
 | nil=>simp at h
 | cons y r ih =>
  rw[Bp,EA]at hn;rw[List.findIdx?_cons];cases j with
  | zero =>
   simp only[Af,Option.some.injEq]at h;subst h;simp
  | succ j =>
   rw[Ah]at h
   have aa:((y.born:Int)==(e.born:Int))=false:=by
    rw[AY];intro q;have q:y.born=e.born:=by omega
    exact hn.1 (Bi.2 ⟨e,CL h,q.symm⟩)
   rw[aa,ih hn.2 h];simp
theorem zdy {x:κ} {α:Type} {v:α}:∀ {l:List (κ×α)},asc l x=some v->putA l x v=l
 | (k,u)::r,h=>by
  unfold asc at h;unfold putA;by_cases e:k=x
  ·rw[Ap e]at h ⊢;injection h with h;rw[h]
  ·rw[AB e]at h ⊢;rw[zdy h]
theorem run_met {t e:TypeId} (h:MapU E w b l) (K:Keyed P kt) (ht:P.underlying t=some (.map kt e)) {z:Value} (hz:(zeroValue e).run P w=.ok z w) {x:κ} (hx:E.ok x) :
  ∃(u c:Value) (w':World),(Instr.mapEntry t (.map (some b)) (E.enc x)).run P w=.ok (.tuple #[u,c]) w'/\zmY E t w' b l x c/\MapIs E w' b (putA l x ((asc l x).getD z))/\w.grownBy w' (some b):=by
 obtain⟨lx,ab⟩:=E.key x hx;have h0:=h;obtain⟨es,clock,hb,he,hf⟩:=find_in h.is K hx;obtain⟨es0,clock0,k,ak,hk,m,n,ac⟩:=h0;rw[hb]at k;injection k with k;injection k with k aj;subst k aj;have ah:b<w.heap.size:=(Ac.1 hb).1;rcases hf with⟨h1,h2⟩|⟨j,e0,h1,h2,h3,h4,h5⟩
 ·refine⟨z,goInt clock,ChangeMaps.setBlock w b (.map (es.push ⟨E.enc x,z,clock⟩) (clock+1)),?_,⟨by simpa[ChangeMaps.setBlock] using ah,fun w2 f v=>?_⟩,?_,⟨rfl,rfl,rfl,by simp[ChangeMaps.setBlock],fun i _ hi=>B0 hb _ (fun e=>hi (by rw[e]))⟩⟩
  ·simp[Instr.mapEntry,CO ht,B8 hb,K.check w false ab,h1,hz,Cz _ hb,Result.andThen,ChangeMaps.setBlock]
  ·rw[BG hb]at f
   have ad:(es.push ⟨E.enc x,z,clock⟩).findIdx? (fun e=>(e.born:Int)==(clock:Int))=some es.size:=by
    rw[Go.WideElems.findIdx_arr,Cn,zdQ n _ rfl];simp
   have ae:(es.push ⟨E.enc x,z,clock⟩).modify es.size (fun e=>{e with val:=v})=es.push ⟨E.enc x,v,clock⟩:=by
    apply Ef;rw[Dq,Cn,Cn]
    have:∀(l:List MapEntry) (a:MapEntry),(l++[a]).modify l.length (fun e=>{e with val:=v})=l++[{a with val:=v}]:=fun l a=>by
     induction l with
     | nil=>rfl
     | cons y r ih=>rw[Cx,Bt,List.modify_succ_cons,ih];rfl
    exact this es.toList _
   refine⟨ChangeMaps.setBlock w2 b (.map (es.push ⟨E.enc x,v,clock⟩) (clock+1)),?_,?_,⟨rfl,rfl,rfl,by simp[ChangeMaps.setBlock],fun i _ hi=>B0 f _ (fun e=>hi (by rw[e]))⟩⟩
   ·simp[Instr.entryStore,B8 f,asInt,asIntOf,goInt,ad,ae,Cz _ f,Result.andThen,ChangeMaps.setBlock]
   ·rw[putA_none h2];refine⟨_,_,BG f _,?_,?_,?_,?_,?_⟩
    ·rw[Cn,AW,AW,he];rfl
    ·intro p hp;rcases Bj.1 hp with q|q
     ·exact hk p q
     ·rw[AF]at q;subst q;exact hx
    ·rw[AW,Ci];refine⟨m,by simp,fun a ha d hd=>?_⟩;obtain⟨p,hp,rfl⟩:=Bi.1 ha;simp only[Bp,CU,AF]at hd;subst hd;exact zba.1 h2 p hp
    ·intro e he;rw[Cn]at he;rcases Bj.1 he with q|q
     ·have:=n e q;omega
     ·rw[AF]at q;subst q;simp
    ·rw[Cn,AW,Ci];refine⟨ac,by simp,fun a ha d hd=>?_⟩;obtain⟨p,hp,rfl⟩:=Bi.1 ha;simp only[Bp,CU,AF]at hd
     have:=n p hp
     omega
  ·rw[h2,Option.getD_none,putA_none h2];refine⟨_,_,BG hb _,?_,?_,?_⟩
   ·rw[Cn,AW,AW,he];rfl
   ·intro p hp;rcases Bj.1 hp with q|q
    ·exact hk p q
    ·rw[AF]at q;subst q;exact hx
   ·rw[AW,Ci];refine⟨m,by simp,fun a ha d hd=>?_⟩;obtain⟨p,hp,rfl⟩:=Bi.1 ha;simp only[Bp,CU,AF]at hd;subst hd;exact zba.1 h2 p hp
 ·have hj:es[j]?=some e0:=by simpa using h2
  have ai:j<es.size:=(Ac.1 hj).1
  have aa:es.modify j (fun e=>{e with key:=E.enc x})=es:=by
   apply Ef;rw[Dq,DM _ _ _ _ h2];refine CX fun i=>?_;rw[Dn];by_cases g:j=i
   ·subst g;rw[Ap rfl,Ap (by simpa using ai),h2,<-h3]
   ·rw[AB g]
  refine⟨e0.val,goInt e0.born,ChangeMaps.setBlock w b (.map es clock),?_,⟨by simpa[ChangeMaps.setBlock] using ah,fun w2 f v=>?_⟩,by rw[h4,Bm,zdy h4];exact⟨es,clock,BG hb _,he,hk,m⟩,⟨rfl,rfl,rfl,by simp[ChangeMaps.setBlock],fun i _ hi=>B0 hb _ (fun e=>hi (by rw[e]))⟩⟩
  ·simp[Instr.mapEntry,CO ht,B8 hb,K.check w false ab,h1,hj,h3,K.stays w ab,Cz _ hb,Result.andThen,ChangeMaps.setBlock,aa]
  ·rw[BG hb]at f
   have ad:es.findIdx? (fun e=>(e.born:Int)==(e0.born:Int))=some j:=by
    rw[Go.WideElems.findIdx_arr,zkX ac h2]
   refine⟨ChangeMaps.setBlock w2 b (.map (es.modify j (fun e=>{e with val:=v})) clock),?_,?_,⟨rfl,rfl,rfl,by simp[ChangeMaps.setBlock],fun i _ hi=>B0 f _ (fun e=>hi (by rw[e]))⟩⟩
   ·simp[Instr.entryStore,B8 f,asInt,asIntOf,goInt,ad,Cz _ f,Result.andThen,ChangeMaps.setBlock]
   ·have af:(es.modify j (fun e=>{e with val:=v})).toList=es.toList.set j {e0 with val:=v}:=by
     rw[Dq,DM _ _ _ _ h2]
    rw[zc0 m h5];refine⟨_,_,BG f _,?_,?_,?_,?_,?_⟩
    ·rw[af,Cs,Cs,he,h3]
    ·intro p hp;rcases Df hp with q|q
     ·exact hk p q
     ·rw[q];exact hx
    ·have e1:(l.set j (x,v)).map Prod.fst=l.map Prod.fst:=by
      rw[Cs];refine CX fun i=>?_;rw[Dn];by_cases g:j=i
      ·subst g;have ag:j<(l.map Prod.fst).length:=by rw[Bb];exact(Ba.1 h5).1
       rw[Ap rfl,Ap ag,BC,h5];rfl
      ·rw[AB g]
     rw[e1];exact m
    ·intro e he;rw[af]at he;rcases Df he with q|q
     ·exact n e q
     ·rw[q];exact n e0 (CL h2)
    ·have e1:(es.toList.set j {e0 with val:=v}).map (·.born)=es.toList.map (·.born):=by
      rw[Cs];refine CX fun i=>?_;rw[Dn];by_cases g:j=i
      ·subst g;have ag:j<(es.toList.map (·.born)).length:=by rw[Bb];simpa using ai
       rw[Ap rfl,Ap ag,BC,h2];rfl
      ·rw[AB g]
     rw[af,e1];exact ac
end
end Go.Mw
namespace Go.Proofs.YtjjbaehamplnaaaGreat
end Go.Proofs.YtjjbaehamplnaaaGreat
namespace Go.Proofs.YtjjbaehamplnaaaGreat
open Go.RowKit
theorem ze8 (z:Int) (hz:-9223372036854775808<=z) (aa:z<=9223372036854775807) (w:World) :
  Calls Tryz.prog 149 #[.int .i64 z] w fun e w'=>e=.returned (.int .i64 (-1-z))/\w'=w:=by
 have hs:IntKind.i64.wrap (-1-z) = -1-z:=Cr _ (by omega);clear hz aa
 go_enter Tryz.func149,Tryz.ntmps149
 go_wp2;go_ret
 exact⟨rfl,rfl⟩
theorem za8 (z:Int) (w:World) :
  Calls Tryz.prog 146 #[.int .i64 z] w fun e w'=>e=.returned (.bool (decide (z<0)))/\w'=w:=by
 go_enter Tryz.func146,Tryz.ntmps146
 go_wp2;go_ret
 exact⟨rfl,rfl⟩
theorem zcb (n:Int) (w:World) :
  Calls Tryz.prog 99 #[.int .i64 n] w fun e w'=>e=.returned (.int .u32 (S.bit n))/\w'=w:=by
 go_enter Tryz.func99,Tryz.ntmps99
 by_cases h:n<0
 ·have e:=aA (S.bit_neg h);go_wp2;go_ret
  rw[e.o];exact⟨rfl,rfl⟩
 ·have h':0<=n:=by omega
  have e:=aA (zha n h');go_wp2;go_ret
  exact⟨aP e.o,rfl⟩
def zlw (x:Nat×Bool) (r:Nat):Nat:=if x.2=true then x.1 ||| r else x.1
def tlV (x:Nat×Bool):Value:=.agg #[.int .u32 (x.1:Int),.bool x.2]
def tlF (x:Nat×Bool):List Value:=[.int .u32 (x.1:Int),.bool x.2]
theorem zcT (x:Nat×Bool):(tlF x).length=2:=rfl
theorem zmm:(Tryz.prog.info? 226).map (fun i=>(i.zero,i.size,i.bytes))=some (some (.agg #[.int .u32 0,.bool false]),2,8):=by kernel_rfl
theorem zkO:(Tryz.prog.info? 224).map (fun i=>(i.zero,i.size,i.bytes))=some (some (.slice none 0 0),1,24):=by kernel_rfl
theorem zhy (x:Nat×Bool) (r:Nat) (hx:x.1<4294967296) (hr:r<4294967296) (w:World) :
  Calls Tryz.prog 190 #[tlV x,.int .u32 (r:Int)] w fun e w'=>e=.returned (.int .u32 (zlw x r:Int))/\Below w.heap.size w w':=by
 have aa:=aA (bA.start 226 w #[.int .u32 (x.1:Int),.bool x.2]);have e:=aA (EM x.1 r hx hr);have HT:Hid (zlw x r=if x.2=true then x.1 ||| r else x.1):=aA rfl;generalize zlw x r=z at *;clear hx hr;unfold tlV;cases hb:x.2
 ·rw[hb]at HT aa;clear hb;generalize x.1=b at *
  go_enter Tryz.func190,Tryz.ntmps190
  go_wp2;go_ret
  exact⟨by rw[HT.o];rfl,aa.o.below⟩
 ·rw[hb]at HT aa;clear hb;generalize x.1=b at *
  go_enter Tryz.func190,Tryz.ntmps190
  go_wp2_with (rw[e.o])
  go_ret
  exact⟨by rw[HT.o];rfl,aa.o.below⟩
theorem zj9:(match Tryz.prog.underlying 176 with|some (.array _ _)|some (.struct _)=>true|_=>false)=true:=by rw[Tryz.underlying176]
theorem wkK:Maps.Keyed Tryz.prog 176:=Maps.Keyed.of_law (deep_law (m:=2) (by omega) (by kernel_rfl) (by kernel_rfl) zj9)
theorem zlv (x:Au.It) (h:Gm.In x.1/\Gm.In x.2):∃l,keyOf Tryz.prog 176 (itV x)=some l:=by
 have h1:(Lit.int .i64 x.1).wf=true:=Dt (by unfold Gm.In at h;omega);have h2:(Lit.int .i64 x.2).wf=true:=Dt (by unfold Gm.In at h;omega);have hk:Tryz.prog.keyType 176=true:=by kernel_rfl
 have hc:Tryz.prog.cellsOf 176=2:=by kernel_rfl
 have aa:Tryz.prog.cellsOf 3=1:=by kernel_rfl
 unfold keyOf;rw[Tryz.underlying176];have ab:(itV x).formed Tryz.prog 176=true:=by simp[Value.formed,Tryz.underlying176,hc]
 have hl:∃ls,Tryz.prog.keyLits (Tryz.prog.types.size+1) 176 (itV x).cells.toList=some ls:=by
  obtain⟨n,hn⟩:∃n,Tryz.prog.types.size=n+1:=⟨Tryz.prog.types.size-1,by have:0<Tryz.prog.types.size:=Cq (by kernel_rfl);omega⟩
  rw[hn];simp[Program.keyLits,Tryz.underlying176,Tryz.underlying3,hc,aa,Value.cells,h1,h2]
 obtain⟨ls,ac⟩:=hl;simp only[hk,ab,ac];exact⟨_,rfl⟩
def wkE:Mw.Enc Tryz.prog 176 Au.It where
 enc x:=itV x
 ok x:=Gm.In x.1/\Gm.In x.2
 key x h:=zlv x h
 inj x y _ _ h:=by
  injection h with h;simp at h;exact Ew h.1 h.2
theorem zkZ:(match Tryz.prog.underlying 127 with|some (.array _ _)|some (.struct _)=>true|_=>false)=true:=by rw[Tryz.underlying127]
theorem enK:Maps.Keyed Tryz.prog 127:=Maps.Keyed.of_law (deep_law (m:=2) (by omega) (by kernel_rfl) (by kernel_rfl) zkZ)
theorem zmF (x:Au.It) (h:Gm.In x.1/\Gm.In x.2):∃l,keyOf Tryz.prog 127 (itV x)=some l:=by
 have h1:(Lit.int .i64 x.1).wf=true:=Dt (by unfold Gm.In at h;omega);have h2:(Lit.int .i64 x.2).wf=true:=Dt (by unfold Gm.In at h;omega);have hk:Tryz.prog.keyType 127=true:=by kernel_rfl
 have hc:Tryz.prog.cellsOf 127=2:=by kernel_rfl
 have aa:Tryz.prog.cellsOf 3=1:=by kernel_rfl
 unfold keyOf;rw[Tryz.underlying127];have ab:(itV x).formed Tryz.prog 127=true:=by simp[Value.formed,Tryz.underlying127,hc]
 have hl:∃ls,Tryz.prog.keyLits (Tryz.prog.types.size+1) 127 (itV x).cells.toList=some ls:=by
  obtain⟨n,hn⟩:∃n,Tryz.prog.types.size=n+1:=⟨Tryz.prog.types.size-1,by have:0<Tryz.prog.types.size:=Cq (by kernel_rfl);omega⟩
  rw[hn];simp[Program.keyLits,Tryz.underlying127,Tryz.underlying3,hc,aa,Value.cells,h1,h2]
 obtain⟨ls,ac⟩:=hl;simp only[hk,ab,ac];exact⟨_,rfl⟩
def enE:Mw.Enc Tryz.prog 127 Au.It where
 enc x:=itV x
 ok x:=Gm.In x.1/\Gm.In x.2
 key x h:=zmF x h
 inj x y _ _ h:=by
  injection h with h;simp at h;exact Ew h.1 h.2
theorem zml:(Tryz.prog.info? 176).map (fun i=>(i.zero,i.size,i.bytes))=some (some (.agg #[.int .i64 0,.int .i64 0]),2,16):=by kernel_rfl
theorem zi7 {o:Oper} {a:Act} {Q:Exit->Act->World->Prop} {K:Act->World->Prop} (m x v:Operand) (t:TypeId) (ab:o.op=Op.mapUpdate t m x v) {mv xv vv:Value} {R:World->Prop} (h:∃w',(Instr.mapUpdate t mv xv vv).run P w=.ok () w'/\R w') (hm:a.eval m=mv) (hx:a.eval x=xv) (hv:a.eval v=vv) (hK:∀w',R w'->K (a.put o.dst undef) w'):o.wp P a w K Q:=by
 obtain⟨w',aa,hR⟩:=h;unfold Oper.wp;simp[execOp,ab,hm,hx,hv,aa,Result.andThen];exact hK w' hR
theorem zaf {e:TypeId} {size:Nat} (h:w.ownsRow base e size v n xs) {o:Obj} (hg:w.heap[g]?=some o) (ho:∀cur,o ≠ .cells cur e (0,0)):v.ownBlock=none\/v.ownBlock≠some g:=by
 rcases h.2 with⟨rfl,_⟩|⟨g',cap,cur,rfl,_,aa,_⟩
 ·exact .inl rfl
 ·refine .inr fun e1=>?_;injection e1 with e1;have e1:g'=g:=e1;subst e1;rw[hg]at aa;injection aa with aa;exact ho _ aa
theorem aI {e:TypeId} {size:Nat} (h:w.ownsRow base e size v n xs) (hg:w.grownBy w' v.ownBlock) {o:Obj} (hb:w.heap[g]?=some o) (ho:∀cur,o ≠ .cells cur e (0,0)):w'.heap[g]?=some o:=by
 refine(hg.block g (Ac.1 hb).1 fun e1=>?_).trans hb;rcases zaf h hb ho with q|q
 ·rw[q]at e1;cases e1
 ·exact q e1.symm
structure KeepI (w w':World):Prop where
 size:w.heap.size<=w'.heap.size
 keep:∀(g:Nat) (cs:Array Value) (T:TypeId) (fr:Nat×Nat),w.heap[g]?=some (.cells cs T fr)->T≠61->T≠56->w'.heap[g]?=some (.cells cs T fr)
section
variable {w w' w2:World}
theorem KeepI.refl (w:World):KeepI w w:=⟨Ad _,fun _ _ _ _ h _ _=>h⟩
theorem KeepI.trans (h:KeepI w w') (k:KeepI w' w2):KeepI w w2:=⟨Ag h.size k.size,fun g cs T fr h1 h2 h3=>k.keep g cs T fr (h.keep g cs T fr h1 h2 h3) h2 h3⟩
theorem KeepI.below (h:Below w.heap.size w w'):KeepI w w':=⟨h.size,fun g _ _ _ h1 _ _=>(h.block g (Ac.1 h1).1).trans h1⟩
theorem KeepI.own (h:w.ownsRow base 61 2 v n xs) (hg:w.grownBy w' v.ownBlock):KeepI w w':=⟨hg.size,fun g cs T fr h1 h2 _=>aI h hg h1 fun cur e=>by injection e with _ e _;exact h2 e⟩
theorem KeepI.map {es:Array MapEntry} {ck:Nat} (h:w.heap[M]?=some (.map es ck)) (hg:w.grownBy w' (some M)):KeepI w w':=⟨hg.size,fun g cs T fr h1 _ _=>(hg.block g (Ac.1 h1).1 (fun e=>by injection e with e;rw[e,h]at h1;cases h1)).trans h1⟩
theorem KeepI.set {pA:Nat} (h:w.heap[pA]?=some (.cells cs 56 fr)) (u:Value):KeepI w (w.setCell ⟨pA,i,none⟩ u):=⟨by simp,fun g cs' T fr' h1 _ h3=>(AH w ⟨pA,i,none⟩ u g (fun e=>by
 have e:g=pA:=e;rw[e,h]at h1;injection h1 with h1;injection h1 with _ h1 _;exact h3 h1.symm)).trans h1⟩
end
structure AdSt (w:World) (base pA pT M:Nat) (xs:List Au.It):Prop where
 v:∃v,w.heap[pA]?=some (.cells #[v] 56 (0,0))/\aK 61 2 prF w base v xs
 t:w.heap[pT]?=some (.cells #[.map (some M)] 217 (0,0))
 l:∃l,Mw.MapIs itE w M l/\∀x,Mw.asc l x=if x∈xs then some (.bool true) else none
 hA:base<=pA
 hT:base<=pT
 hM:base<=M
section
variable {w w':World} {base pA pT M:Nat} {xs:List Au.It}
theorem AdSt.below (h:AdSt w base pA pT M xs) (hb:Below w.heap.size w w'):AdSt w' base pA pT M xs:=by
 obtain⟨⟨v,h1,h2⟩,h3,⟨l,h4,h5⟩,h6,h7,h8⟩:=h;exact⟨⟨v,aC hb h1,h2.below hb (Ad _)⟩,aC hb h3,⟨l,h4.block (hb.block _ h4.lt),h5⟩,h6,h7,h8⟩
theorem AdSt.base_le (h:AdSt w base pA pT M xs):base<=w.heap.size:=by
 have:=(Ac.1 h.t).1
 have:=h.hT
 omega
end
theorem aH {cur:Array Value} {T T':TypeId} (h:T≠T'):(Obj.cells cs T (0,0)) ≠ .cells cur T' (0,0):=fun e=>by
 injection e with _ e _;exact h e
theorem zeS (x:Int×Int) (w:World) (g:Nat) (hb:w.heap[g]?=some (.cells #[.int .i64 x.1,.int .i64 x.2] 61 (0,0))):∀j u,(prF x)[j]?=some u->w.cell? ⟨g,j,none⟩=some u:=fun j u hu=>by
 refine(Aw w g j _ _ _ hb).trans ?_
 match j,hu with
 | 0,hu=>exact hu
 | 1,hu=>exact hu
 | j+2,hu=>simp[prF]at hu
theorem AdSt.put {w5 w6:World} {pA pT:Nat} {xs:List Au.It} {x:Au.It} {v5:Value} {l:List (Au.It×Value)} (hn:x ∉ xs) (h1:w.heap[pA]?=some (.cells #[v] 56 (0,0))) (h2:aK 61 2 prF w base v xs) (h3:w.heap[pT]?=some (.cells #[.map (some M)] 217 (0,0))) (h5:∀x,Mw.asc l x=if x∈xs then some (.bool true) else none) (hA:base<=pA) (hT:base<=pT) (hM:base<=M) (ho:aK 61 2 prF w5 base v5 (xs++[x])) (hg:w.grownBy w5 v.ownBlock) (hm:Mw.MapIs itE w6 M (l++[(x,.bool true)])) (ab:w5.grownBy w6 (some M)) (ac:Mw.MapIs itE w5 M l) :
  AdSt (w6.setCell ⟨pA,0,none⟩ v5) base pA pT M (Au.addX xs x)/\(Below base w w6->Below base w (w6.setCell ⟨pA,0,none⟩ v5)):=by
 have aa:M≠pA:=fun e=>by
  have:=aI h2 hg h1 fun cur=>aH (by decide)
  rw[<-e]at this;exact ac.not_cells this
 have ad:M≠pT:=fun e=>by
  have:=aI h2 hg h3 fun cur=>aH (by decide)
  rw[<-e]at this;exact ac.not_cells this
 have ae:pA≠pT:=fun e=>by
  rw[e,h3]at h1;injection h1 with h1;exact aH (by decide) h1
 have a5:=aI h2 hg h1 fun cur=>aH (by decide);have t5:=aI h2 hg h3 fun cur=>aH (by decide);have a6:w6.heap[pA]?=some (.cells #[v] 56 (0,0)):=(ab.block pA (Ac.1 a5).1 (fun e=>by injection e with e;exact aa e.symm)).trans a5;have t6:w6.heap[pT]?=some (.cells #[.map (some M)] 217 (0,0)):=(ab.block pT (Ac.1 t5).1 (fun e=>by injection e with e;exact ad e.symm)).trans t5;obtain⟨es,ck,af,_⟩:=ac;have o6:aK 61 2 prF w6 base v5 (xs++[x]):=AZ ho ab (zaf ho af fun cur e=>by cases e);have o7:aK 61 2 prF (w6.setCell ⟨pA,0,none⟩ v5) base v5 (xs++[x]):=AZ o6 (aF (AI _ _) 0 v5) (zaf o6 a6 fun cur=>aH (by decide));have e:Au.addX xs x=xs++[x]:=by unfold Au.addX;rw[AB hn]
 rw[e];refine⟨⟨⟨v5,AP w6 pA 0 _ _ _ a6,o7⟩,(AH w6 ⟨pA,0,none⟩ v5 pT (fun e=>ae e.symm)).trans t6,⟨_,hm.block (AH w6 ⟨pA,0,none⟩ v5 M aa),fun y=>?_⟩,hA,hT,hM⟩,fun hb=>hb.setCell hA _⟩;have ag:Mw.asc l x=none:=by rw[h5,AB hn]
 rw[Mw.asc_snoc ag,h5];by_cases e1:x=y
 ·subst e1;simp
 ·rw[AB e1];by_cases e2:y∈xs
  ·rw[Ap e2,Ap (C7 _ e2)]
  ·rw[AB e2,AB];intro q;rcases Bj.1 q with q|q
   ·exact e2 q
   ·exact e1 (AF.1 q).symm
end Go.Proofs.YtjjbaehamplnaaaGreat
namespace Go.Proofs.YtjjbaehamplnaaaGreat
open Go.RowKit
def bU (w:World) (gc:Nat):Option Nat:=match w.cell? ⟨gc,0,none⟩ with
 | some v=>v.ownBlock
 | none=>none
theorem zbu {gc:Nat} (h:w.cell? ⟨gc,0,none⟩=some v):bU w gc=v.ownBlock:=by unfold bU;rw[h]
structure KeepG (gc M D:Nat) (w w':World):Prop where
 size:w.heap.size<=w'.heap.size
 keep:∀g,g<w.heap.size->g≠gc->g≠M->g≠D->bU w gc≠some g->w'.heap[g]?=w.heap[g]?
 own:bU w' gc=bU w gc \/ ∃k,bU w' gc=some k/\w.heap.size<=k
section
variable {gc M D:Nat} {w w' w2:World}
theorem KeepG.refl (w:World):KeepG gc M D w w:=⟨Ad _,fun _ _ _ _ _ _=>rfl,.inl rfl⟩
theorem KeepG.trans (h:KeepG gc M D w w') (k:KeepG gc M D w' w2):KeepG gc M D w w2:=by
 refine⟨Ag h.size k.size,fun g h1 h2 h3 h4 h5=>(k.keep g (Ao h1 h.size) h2 h3 h4 fun e=>?_).trans (h.keep g h1 h2 h3 h4 h5),?_⟩
 ·rcases h.own with q|⟨j,q,hj⟩
  ·rw[q]at e;exact h5 e
  ·rw[q]at e;injection e with e;omega
 ·rcases k.own with q|⟨j,q,hj⟩
  ·rw[q];exact h.own
  ·exact .inr ⟨j,q,Ag h.size hj⟩
theorem KeepG.below (h:Below w.heap.size w w') (hg:gc<w.heap.size):KeepG gc M D w w' :=
 ⟨h.size,fun g h1 _ _ _ _=>h.block g h1,.inl (by unfold bU;rw[h.cell (p:=⟨gc,0,none⟩) hg])⟩
theorem KeepG.off (h:KeepG gc M D w w') (hg:g<w.heap.size) (hn:bU w gc≠some g):bU w' gc≠some g:=by
 rcases h.own with q|⟨j,q,hj⟩
 ·rw[q];exact hn
 ·rw[q];intro e;injection e with e;omega
theorem KeepG.row (h:KeepG gc M D w w') {t:TypeId} {f:Nat×Nat} (hb:w.heap[g]?=some (.cells cs t f)) (h1:g≠gc) (h2:g≠M) (h3:g≠D) (h4:bU w gc≠some g):w'.heap[g]?=some (.cells cs t f):=(h.keep g (Ac.1 hb).1 h1 h2 h3 h4).trans hb
theorem KeepG.map (hg:w.grownBy w' (some M)) (h1:gc<w.heap.size) (h2:gc≠M):KeepG gc M D w w' :=
 ⟨hg.size,fun g k1 _ k3 _ _=>hg.block g k1 (fun e=>by injection e with e;exact k3 e),.inl (by
  unfold bU;rw[show w'.cell? ⟨gc,0,none⟩=w.cell? ⟨gc,0,none⟩ from Ch (hg.block gc h1 (fun e=>by injection e with e;exact h2 e))])⟩
theorem KeepG.mapD (hg:w.grownBy w' (some D)) (h1:gc<w.heap.size) (h2:gc≠D):KeepG gc M D w w' :=
 ⟨hg.size,fun g k1 _ _ k4 _=>hg.block g k1 (fun e=>by injection e with e;exact k4 e),.inl (by
  unfold bU;rw[show w'.cell? ⟨gc,0,none⟩=w.cell? ⟨gc,0,none⟩ from Ch (hg.block gc h1 (fun e=>by injection e with e;exact h2 e))])⟩
end
def wrC (g0 g1 g2 g3 tv:Value) (T M D:Nat):Array Value:=#[g0,g1,g2,g3,tv,.map (some T),.map (some M),.map (some D)]
structure WkSt (w:World) (base R gc T M D:Nat) (g0 g1 g2 g3 tv:Value) (tl:List ((Int×Int)×Value)) (MM DD:Lk.MP) (st:List (Int×Int)):Prop where
 r:w.heap[R]?=some (.cells (wrC g0 g1 g2 g3 tv T M D) 174 (0,0))
 v:∃v,w.heap[gc]?=some (.cells #[v] 227 (0,0))/\aK 176 2 prF w base v st
 t:Mw.MapIs wkE w T tl
 m:Mw.MapU wkE w M (Lk.encM MM)
 d:Mw.MapU enE w D (Lk.encM DD)
 hR:base<=R
 hg:base<=gc
 hT:base<=T
 hM:base<=M
 hD:base<=D
 ne:T≠M/\T≠D/\M≠D
section
variable {w w':World} {base R gc T M D:Nat} {g0 g1 g2 g3 tv:Value} {tl:List ((Int×Int)×Value)} {MM DD:Lk.MP} {st:List (Int×Int)}
theorem WkSt.below (h:WkSt w base R gc T M D g0 g1 g2 g3 tv tl MM DD st) (hb:Below w.heap.size w w'):WkSt w' base R gc T M D g0 g1 g2 g3 tv tl MM DD st:=by
 obtain⟨h1,⟨v,h2,h3⟩,h4,h5,h6,a1,a2,a3,a4,a5,h7⟩:=h;exact⟨aC hb h1,⟨v,aC hb h2,h3.below hb (Ad _)⟩,h4.block (hb.block _ h4.lt),h5.block (hb.block _ h5.lt),h6.block (hb.block _ h6.lt),a1,a2,a3,a4,a5,h7⟩
theorem WkSt.own (h:WkSt w base R gc T M D g0 g1 g2 g3 tv tl MM DD st) (k:Nat) (hk:bU w gc=some k):k<w.heap.size:=by
 obtain⟨v,h2,h3⟩:=h.v;rw[zbu (Aw w gc 0 _ _ _ h2)]at hk;exact(Bs h3 k hk).2
theorem WkSt.base_le (h:WkSt w base R gc T M D g0 g1 g2 g3 tv tl MM DD st):base<=w.heap.size:=by
 have:=h.m.lt
 have:=h.hM
 omega
theorem WkSt.gcl (h:WkSt w base R gc T M D g0 g1 g2 g3 tv tl MM DD st):gc<w.heap.size:=by
 obtain⟨v,h2,_⟩:=h.v;exact(Ac.1 h2).1
theorem WkSt.gcM (h:WkSt w base R gc T M D g0 g1 g2 g3 tv tl MM DD st):gc≠M/\gc≠D/\gc≠T/\R≠M/\R≠D/\R≠gc:=by
 obtain⟨v,h2,_⟩:=h.v;refine⟨fun e=>?_,fun e=>?_,fun e=>?_,fun e=>?_,fun e=>?_,fun e=>?_⟩
 ·rw[e]at h2;exact h.m.is.not_cells h2
 ·rw[e]at h2;exact h.d.is.not_cells h2
 ·rw[e]at h2;exact h.t.not_cells h2
 ·have:=h.r;rw[e]at this;exact h.m.is.not_cells this
 ·have:=h.r;rw[e]at this;exact h.d.is.not_cells this
 ·have:=h.r
  rw[e,h2]at this;injection this with this;exact aH (by decide) this
theorem WkSt.mset (h:WkSt w base R gc T M D g0 g1 g2 g3 tv tl MM DD st) {MM':Lk.MP} (hg:w.grownBy w' (some M)) (hm:Mw.MapU wkE w' M (Lk.encM MM')):WkSt w' base R gc T M D g0 g1 g2 g3 tv tl MM' DD st:=by
 obtain⟨n1,n2,n3,n4,n5,n6⟩:=h.gcM;obtain⟨h1,⟨v,h2,h3⟩,h4,h5,h6,a1,a2,a3,a4,a5,h7⟩:=h;obtain⟨es,ck,aa,_⟩:=h5
 exact⟨(hg.block R (Ac.1 h1).1 (fun e=>by injection e with e;exact n4 e)).trans h1,
  ⟨v,(hg.block gc (Ac.1 h2).1 (fun e=>by injection e with e;exact n1 e)).trans h2,AZ h3 hg (zaf h3 aa fun cur e=>by cases e)⟩,
  h4.block (hg.block T h4.lt (fun e=>by injection e with e;exact h7.1 e)),hm,h6.block (hg.block D h6.lt (fun e=>by injection e with e;exact h7.2.2 e.symm)),a1,a2,a3,a4,a5,h7⟩
theorem WkSt.dset (h:WkSt w base R gc T M D g0 g1 g2 g3 tv tl MM DD st) {DD':Lk.MP} (hg:w.grownBy w' (some D)) (hm:Mw.MapU enE w' D (Lk.encM DD')):WkSt w' base R gc T M D g0 g1 g2 g3 tv tl MM DD' st:=by
 obtain⟨n1,n2,n3,n4,n5,n6⟩:=h.gcM;obtain⟨h1,⟨v,h2,h3⟩,h4,h5,h6,a1,a2,a3,a4,a5,h7⟩:=h;obtain⟨es,ck,aa,_⟩:=h6
 exact⟨(hg.block R (Ac.1 h1).1 (fun e=>by injection e with e;exact n5 e)).trans h1,
  ⟨v,(hg.block gc (Ac.1 h2).1 (fun e=>by injection e with e;exact n2 e)).trans h2,AZ h3 hg (zaf h3 aa fun cur e=>by cases e)⟩,
  h4.block (hg.block T h4.lt (fun e=>by injection e with e;exact h7.2.1 e)),h5.block (hg.block M h5.lt (fun e=>by injection e with e;exact h7.2.2 e)),hm,a1,a2,a3,a4,a5,h7⟩
end
section
variable {w w5:World} {base R gc T M D:Nat} {g0 g1 g2 g3 tv:Value} {tl:List ((Int×Int)×Value)} {MM DD:Lk.MP} {st st':List (Int×Int)} {v v5:Value}
theorem WkSt.push (h:WkSt w base R gc T M D g0 g1 g2 g3 tv tl MM DD st) (hv:w.heap[gc]?=some (.cells #[v] 227 (0,0))) (ho:aK 176 2 prF w base v st) (ae:aK 176 2 prF w5 base v5 st') (hg:w.grownBy w5 v.ownBlock):WkSt (w5.setCell ⟨gc,0,none⟩ v5) base R gc T M D g0 g1 g2 g3 tv tl MM DD st':=by
 obtain⟨n1,n2,n3,n4,n5,n6⟩:=h.gcM;obtain⟨h1,_,h4,h5,h6,a1,a2,a3,a4,a5,h7⟩:=h;have r5:=aI ho hg h1 fun cur=>aH (by decide);have v5':=aI ho hg hv fun cur=>aH (by decide);obtain⟨es,ck,af,ag⟩:=h4;have t5:=aI ho hg af fun cur e=>by cases e
 obtain⟨es2,ck2,aa,ab⟩:=h5;have m5:=aI ho hg aa fun cur e=>by cases e
 obtain⟨es3,ck3,ac,ad⟩:=h6;have d5:=aI ho hg ac fun cur e=>by cases e
 have o7:aK 176 2 prF (w5.setCell ⟨gc,0,none⟩ v5) base v5 st':=AZ ae (aF (AI _ _) 0 v5) (zaf ae v5' fun cur=>aH (by decide))
 exact⟨(AH w5 ⟨gc,0,none⟩ v5 R n6).trans r5,⟨v5,AP w5 gc 0 _ _ _ v5',o7⟩,
  ⟨es,ck,(AH w5 ⟨gc,0,none⟩ v5 T (fun e=>n3 e.symm)).trans t5,ag⟩,⟨es2,ck2,(AH w5 ⟨gc,0,none⟩ v5 M (fun e=>n1 e.symm)).trans m5,ab⟩,⟨es3,ck3,(AH w5 ⟨gc,0,none⟩ v5 D (fun e=>n2 e.symm)).trans d5,ad⟩,a1,a2,a3,a4,a5,h7⟩
theorem KeepG.push {wA:World} (h:KeepG gc M D w wA) (hv:wA.cell? ⟨gc,0,none⟩=some v) (hg:wA.grownBy w5 v.ownBlock) (aa:v5.ownBlock=v.ownBlock\/v5.ownBlock=some wA.heap.size) {ty:TypeId} (hc:w5.heap[gc]?=some (.cells #[u] ty (0,0))):KeepG gc M D w (w5.setCell ⟨gc,0,none⟩ v5):=by
 have e:=zbu hv;have hs:=hg.size;have hn:bU (w5.setCell ⟨gc,0,none⟩ v5) gc=v5.ownBlock:=zbu (Aw _ gc 0 _ _ _ (AP w5 gc 0 _ _ _ hc));refine⟨by have:=h.size;simp;omega,fun g k1 k2 k3 k4 k5=>(AH w5 ⟨gc,0,none⟩ v5 g k2).trans ((hg.block g (Ao k1 h.size) (fun q=>?_)).trans (h.keep g k1 k2 k3 k4 k5)),?_⟩
 ·exact h.off k1 k5 (by rw[e,<-q])
 ·rw[hn];rcases aa with q|q
  ·rw[q,<-e];exact h.own
  ·exact .inr ⟨_,q,h.size⟩
end
theorem zis (x:Int×Int) (w:World) (g:Nat) (hb:w.heap[g]?=some (.cells #[.int .i64 x.1,.int .i64 x.2] 176 (0,0))):∀j u,(prF x)[j]?=some u->w.cell? ⟨g,j,none⟩=some u:=fun j u hu=>by
 refine(Aw w g j _ _ _ hb).trans ?_
 match j,hu with
 | 0,hu=>exact hu
 | 1,hu=>exact hu
 | j+2,hu=>simp[prF]at hu
end Go.Proofs.YtjjbaehamplnaaaGreat
namespace Go.Proofs.YtjjbaehamplnaaaGreat
open Go.RowKit
theorem zfw (w:World) (base pA pT M:Nat) (xs:List Au.It) (x:Au.It) (h:AdSt w base pA pT M xs) (hx:Gm.In x.1/\Gm.In x.2) (aa:xs.length<=100000) :
  Calls Tryz.prog 138 #[itV x,.pointer (some ⟨pT,0,none⟩),.pointer (some ⟨pA,0,none⟩)] w fun e w'=>e=.returned (.tuple #[])/\AdSt w' base pA pT M (Au.addX xs x)/\Below base w w'/\KeepI w w':=by
 obtain⟨wb,u⟩:∃y,y=w.alloc (.cells #[.int .i64 x.1,.int .i64 x.2] 61):=⟨_,rfl⟩
 have j:Hid (Below w.heap.size w wb):=aA (by rw[u];exact(Aq _ _).alloc (Ad _) _);have n:wb.heap[w.heap.size]?=some (.cells #[.int .i64 x.1,.int .i64 x.2] 61 (0,0)):=by rw[u];exact Az w _
 have m:=aA n;have a3:w.heap.size<wb.heap.size:=(Ac.1 n).1;have HH:=aA (h.below j.o);have B:=aA h.base_le;have a4:=aA hx;obtain⟨⟨v,h1,h2⟩,h3,⟨l,h4,h5⟩,hA,hT,hM⟩:=h;have a9:=aA (fun k (e:v.ownBlock=some k)=>(Bs h2 k e).2);have ap:=h4.lt;have h1:=aC j.o h1;have h2:=h2.below j.o (Ad _);have h3:=aC j.o h3;have h4:=h4.block (j.o.block _ h4.lt);have ba:=aA (show M≠w.heap.size by omega);have H1:=aA h1;have H2:=aA h2;have H3:=aA h3;have H5:=aA h5;have H4:=aA h4;have cT:=aM h3;have x0:=aM n;have x1:=aR n;have hE:=h5 x;have ah:itE.enc x=.agg #[.int .i64 x.1,.int .i64 x.2]:=rfl;have lk:=Mw.run_look (E:=itE) h4 itK (t:=217) Tryz.underlying217 (z:=.bool false) (by kernel_rfl) (x:=x) hx false;rw[hE,ah]at lk;by_cases hn:x∈xs
 ·rw[Ap hn]at lk;have e:Au.addX xs x=xs:=by unfold Au.addX;rw[Ap hn]
  simp at lk;clear h1 h2 h3 h4 h5 hE hx n hA hT hM hn ap
  go_enter Tryz.func138,Tryz.ntmps138
  go_upto_region 1 with fail
  rw[<-u];clear u;go_wp2;go_end0
  exact⟨rfl,by rw[e];exact HH.o,j.o.mono B.o,.below j.o⟩
 ·rw[AB hn]at lk;simp at lk;have HN:=aA hn;obtain⟨A,c,rfl,bj,bk,_⟩:=aK.form h2 aJ;have aq:=aA (fun(y:World) (hy:Mw.MapIs itE y M l)=>Mw.run_put (x:=x) hy itK Tryz.underlying217 a4.o (.bool true));have ab:Mw.asc l x=none:=by rw[hE,AB hn]
  rw[Mw.putA_none ab]at aq;have cA:=aM h1;have ai:=aA aa
  have aj:pA≠w.heap.size:=fun e=>by
   rw[e]at h1;rw[n]at h1;injection h1 with h1;exact aH (by decide) h1
  have HT:=aA hT;have HA:=aA hA;have HM:=aA hM;clear h1 h2 h3 h4 h5 hE hx n hA hT hM hn ab aa ap
  go_enter Tryz.func138,Tryz.ntmps138
  go_upto_region 1 with fail
  rw[<-u];clear u;go_upto_region 2 with fail
  have qT:∀y:OnP [pT,w.heap.size] wb,y.1.cell? ⟨pT,0,none⟩=some (.map (some M)):=fun y=>y.row (by simp) H3.o rfl;have q0:∀y:OnP [pT,w.heap.size] wb,y.1.cell? ⟨w.heap.size,0,none⟩=some (.int .i64 x.1):=fun y=>y.row (by simp) m.o rfl;have q1:∀y:OnP [pT,w.heap.size] wb,y.1.cell? ⟨w.heap.size,1,none⟩=some (.int .i64 x.2):=fun y=>y.row (by simp) m.o rfl;clear x0 x1 cT lk;have S0:∃y:OnP [pT,w.heap.size] wb,wb.drew=y.1:=⟨⟨wb.drew,fun _ _=>rfl⟩,rfl⟩
  refine CalmN.region_tree (fun x=>∃y:OnP [pT,w.heap.size] wb,x=y.1) (.two [0,1,3] 2 (.one [] 4 (.one [] 5 (.one [] 6 (.one [] 7 (.fin []))))) 4 (.one [] 2 (.one [] 5 (.one [] 6 (.one [] 7 (.fin [])))))) (by kernel_rfl) (by kernel_rfl) (fun _ _ d _ _ h=>by cases d <;> exact h) S0 ?_;rw[CalmN.wpT];simp only[CalmN.pickOps,Am,Af,Ah];repeat (go_big_quiet_step (fail))
  have ar:=aA S0;have D:Hid (Below w.heap.size w wb.drew):=aA (aB j.o 1);have H1:Hid (wb.drew.heap[pA]?=some (.cells #[.slice A xs.length c] 56 (0,0))):=H1;have H2:Hid (aK 61 2 prF wb.drew base (.slice A xs.length c) xs):=H2;have H3:Hid (wb.drew.heap[pT]?=some (.cells #[.map (some M)] 217 (0,0))):=H3;have H4:Hid (Mw.MapIs itE wb.drew M l):=aA (H4.o.block rfl);have m:Hid (wb.drew.heap[w.heap.size]?=some (.cells #[.int .i64 x.1,.int .i64 x.2] 61 (0,0))):=m;have cA:wb.drew.cell? ⟨pA,0,none⟩=some (.slice A xs.length c):=cA
  have ag:Hid (∀y:World,y.heap[pT]?=wb.drew.heap[pT]?->y.heap[w.heap.size]?=wb.drew.heap[w.heap.size]?->∃z:OnP [pT,w.heap.size] wb,y=z.1):=aA (fun y e1 e2=>⟨⟨y,fun g hg=>by
   rcases Bq.1 hg with rfl|hg
   ·exact e1
   ·rw[AF.1 hg];exact e2⟩,rfl⟩)
  have ak:w.heap.size<wb.drew.heap.size:=a3;clear qT q0 q1;generalize wb.drew=wd at *;have i:Hid (Below wd.heap.size wd (wd.alloc (.cells #[.int .i64 x.1,.int .i64 x.2] 61))):=aA ((Aq _ _).alloc (Ad _) _);have bb:=(Ac.1 H3.o).1;have bl:=(Ac.1 H1.o).1;have cA2:=aM (aC i.o H1.o);have C:=aA (ag.o (wd.alloc (.cells #[.int .i64 x.1,.int .i64 x.2] 61)) (i.o.block _ bb) (i.o.block _ ak));refine Aj ⟨?_,?_⟩
  case' refine_1 =>
   simp only[CalmN.wpT,CalmN.wpSt,CalmN.pickOps,Am,Af,Ah];intro KK b;rw[Ap (by rfl)];go_wp2_with fail
   refine b _ _ ar.o _ (fun _ h=>h) ar.o ?_;clear b;refine Aj ?_;intro KK b;rw[Ap (by rfl)];go_wp2_with fail
   refine b _ _ C.o _ (fun _ h=>h) C.o ?_;clear b;refine Aj ?_
  case' refine_2 =>
   simp only[CalmN.wpT,CalmN.wpSt,CalmN.pickOps,Am,Af,Ah];intro KK b;rw[Ap (by rfl)];go_wp2_with fail
   refine b _ _ C.o _ (fun _ h=>h) C.o ?_;clear b;refine Aj ?_;intro KK b;rw[Ap (by rfl)];go_wp2_with fail
   refine b _ _ C.o _ (fun _ h=>h) C.o ?_;clear b;refine Aj ?_
  all_goals
   intro KK b;rw[Ap (by rfl)];have o1:=H2.o.alloc (.cells #[.int .i64 x.1,.int .i64 x.2] 61);have p:=aA o1;have b1:=aC i.o H1.o;have b3:=aC i.o H3.o;have bX:=aC i.o m.o;obtain⟨es,ck,au,av⟩:=H4.o;have bM:=aC i.o au;have ac:=Az wd (.cells #[.int .i64 x.1,.int .i64 x.2] 61);clear o1 cA cA2;refine zic (f:=prF) (.tmp 10) (.tmp 12) _ rfl Tryz.underlying56 _ 16 zjO (by decide) (by decide) (by decide) aJ zdB base _ xs rfl p.o _ _ x rfl (zeS x _ _ ac) (by have:=ai.o;omega) (Ag B.o (by have:=D.o.size;simp;omega)) ?_;intro v5 w5 al r;obtain⟨A5,c5,rfl,_,_,_⟩:=aK.form al aJ;have m5:=aI p.o r bM fun cur e=>by cases e
   have t5:=aI p.o r b3 fun cur=>aH (by decide);have a5:=aI p.o r b1 fun cur=>aH (by decide);have x5:w5.heap[w.heap.size]?=some (.cells #[.int .i64 x.1,.int .i64 x.2] 61 (0,0)):=(r.block _ (Ac.1 bX).1 (fun e=>by have:=a9.o _ e.symm;omega)).trans bX;have F:Hid (Mw.MapIs itE w5 M l):=aA ⟨es,ck,m5,av⟩;have aw:=aA (ag.o w5 (t5.trans H3.o.symm) (x5.trans m.o.symm));have ax:Hid (Below base w w5):=aA (((D.o.mono B.o).trans (i.o.mono (Ag B.o D.o.size))).grown r (Ag B.o (by have:=D.o.size;simp;omega)) (fun k e=>(Bs p.o k e).1));have am:=aA t5;have ao:=aA a5;have ay:=aA x5;have bc:=aA al;have az:=aA r;have bd:=aA b1;have bf:=aA b3;clear m5 t5 a5 x5 al r b1 b3 bX bM au av ac;refine b _ _ aw.o _ (fun _ h=>h) aw.o ?_;clear b;refine Aj ?_;intro KK b;rw[Ap (by rfl)];refine zi7 _ _ _ _ rfl (aq.o w5 F.o) rfl rfl rfl ?_;rintro w6 ⟨a0,s⟩;have ad:M≠pT:=fun e=>by have:=am.o;rw[<-e]at this;exact F.o.not_cells this
   have ae:M≠pA:=fun e=>by have:=ao.o;rw[<-e]at this;exact F.o.not_cells this
   have t6:=(s.block pT (Ac.1 am.o).1 (fun e=>by injection e with e;exact ad e.symm)).trans am.o;have a6:=(s.block pA (Ac.1 ao.o).1 (fun e=>by injection e with e;exact ae e.symm)).trans ao.o;have x6:=(s.block w.heap.size (Ac.1 ay.o).1 (fun e=>by injection e with e;exact ba.o e.symm)).trans ay.o;have a1:=aA (ag.o w6 (t6.trans H3.o.symm) (x6.trans m.o.symm));have bg:Hid (Below base w w6):=aA (zaa ax.o s HM.o (Ag B.o (by have:=ax.o.size;omega)));have HP:=aA (AdSt.put HN.o bd.o p.o bf.o H5.o HA.o HT.o HM.o bc.o az.o a0 s F.o).1;have cA6:=aM a6;have fA6:=AD w6 pA 0 _ _ a6;have lA6:=(Ac.1 a6).1;have a2:=aA (ag.o (w6.setCell ⟨pA,0,none⟩ (.slice A5 (xs++[x]).length c5)) ((HP.o.t).trans H3.o.symm) ((AH w6 ⟨pA,0,none⟩ _ w.heap.size (fun e=>aj e.symm)).trans (x6.trans m.o.symm)));have bh:Hid (Below base w (w6.setCell ⟨pA,0,none⟩ (.slice A5 (xs++[x]).length c5))):=aA (bg.o.setCell HA.o _);obtain⟨es5,ck5,af,_⟩:=F.o;have bi:Hid (KeepI w (w6.setCell ⟨pA,0,none⟩ (.slice A5 (xs++[x]).length c5))):=aA (((((KeepI.below D.o).trans (.below i.o)).trans (.own p.o az.o)).trans (.map af s)).trans (.set a6 _));clear a0 s ad ae t6 a6 x6 af;generalize (xs++[x]).length=ln at *;refine b _ _ a1.o _ (fun _ h=>h) a1.o ?_;clear b;refine Aj ?_;intro KK b;rw[Ap (by rfl)];go_wp2_with fail
   refine b _ _ a2.o _ (fun _ h=>h) a2.o ?_;clear b cA6 fA6 lA6;refine Aj ?_;go_wp2;go_end0
   exact⟨rfl,HP.o,bh.o,bi.o⟩
namespace Au
def begT (G:Gm.Gr) (left:Int) (i:Nat):List It:=((List.range i).filter fun k=>decide ((G.rs.getD k ⟨0,[],0⟩).l=left)).map fun k:Nat=>((k:Int),(0:Int))
theorem begT_yes {left:Int} (hi:i<G.rs.length) (h:(G.rs[i]).l=left):begT G left (i+1)=begT G left i++[((i:Int),0)]:=by
 unfold begT;rw[Cp,CF,AW,Cy,Ap (by rw[AV,Ai,Ar hi,Bm];exact h)];rfl
theorem begT_no {left:Int} (hi:i<G.rs.length) (h:(G.rs[i]).l≠left):begT G left (i+1)=begT G left i:=by
 unfold begT;rw[Cp,CF,AW,Cy,AB (by rw[AV,Ai,Ar hi,Bm];exact h)];simp
theorem begT_len (G:Gm.Gr) (left:Int) (i:Nat):(begT G left i).length<=i:=by
 unfold begT;rw[Bb]
 have:=Ct (fun k=>decide ((G.rs.getD k ⟨0,[],0⟩).l=left)) (List.range i)
 rw[EH]at this;exact this
theorem addE_beg {x:It} (h:nx G x=some s) (h0:s<0):addE G x=begT G (-1-s) G.rs.length:=by
 unfold addE begT;rw[h];simp only[Ap h0]
theorem addE_no {x:It} (h:∀s,nx G x=some s->0<=s):addE G x=[]:=by
 unfold addE;cases hn:nx G x with
 | none=>rfl
 | some s =>
  have:=h s hn
  simp only;rw[AB (by omega)]
theorem addsX_up:∀ {zs xs:List It},(addsX xs zs).length<=xs.length+zs.length
 | [],_=>Ad _
 | z::zs,xs=>by
  have h:=addsX_up (zs:=zs) (xs:=addX xs z)
  have h1:(addX xs z).length<=xs.length+1:=by
   unfold addX;split
   ·omega
   ·simp
  have e:addsX xs (z::zs)=addsX (addX xs z) zs:=rfl;rw[e,Bt];omega
end Au
theorem zgi (v:Value) (G:Gm.Gr) (B:Nat) (left:Int) (w:World) (base pA pT M:Nat) (xs:List Au.It) (hg:aQ w B v G) (hB:B<=base) (hr:G.rs.length<=1000) (h:AdSt w base pA pT M xs) (aa:xs.length<=50000) :
  Calls Tryz.prog 141 #[v,.int .i64 left,.func (Fn.func 138) #[] #[.pointer (some ⟨pT,0,none⟩),.pointer (some ⟨pA,0,none⟩)]] w fun e w'=>e=.returned (.tuple #[])/\AdSt w' base pA pT M (Au.addsX xs (Au.begT G left G.rs.length))/\Below base w w'/\KeepI w w':=by
 obtain⟨AT,cT,AN,cN,AR,cR,rfl,_,_,⟨a5,a6⟩,_,_,hR⟩:=hg;obtain⟨wb,ab⟩:∃y,y=w.alloc (.cells #[.slice AT G.ts.length cT,.slice AN G.ns.length cN,.slice AR G.rs.length cR,.int .i64 G.st] 26):=⟨_,rfl⟩
 have ad:Hid (Below w.heap.size w wb):=aA (by rw[ab];exact(Aq _ _).alloc (Ad _) _);have ag:wb.heap[w.heap.size]?=some (.cells #[.slice AT G.ts.length cT,.slice AN G.ns.length cN,.slice AR G.rs.length cR,.int .i64 G.st] 26 (0,0)):=by rw[ab];exact Az w _
 have HR:=aA hR;have ah:=aA h.base_le;have HB:=aA hB;have HH:=aA (h.below ad.o);have x2:=bF ag;have av:Hid (Below base w wb):=aA (ad.o.mono ah.o);have aw:Hid (KeepI w wb):=aA (.below ad.o);have ai:(G.rs.length:Int)<=1000:=by omega
 have HL:=aA aa;clear hR hB h ag aa
 go_enter Tryz.func141,Tryz.ntmps141
 go_upto_region 1 with fail
 rw[<-ab];clear ab;go_wp2;go_loopw [11] (fun vi wr=>∃i:Nat,i<=G.rs.length/\vi=.int .i64 i/\Hid (AdSt wr base pA pT M (Au.addsX xs (Au.begT G left i)))/\Hid (Below base w wr)/\Hid (KeepI w wr)) (fun vi _=>G.rs.length-(intOf vi).toNat)
 case atStart=>exact⟨0,AX _,rfl,HH,av,aw⟩
 case round =>
  obtain⟨i,hi,rfl,HA,HW,HK⟩:=hrel;by_cases b:i<G.rs.length
  ·obtain⟨g,o,rfl,ax,hc⟩:=HR.o (by omega);obtain⟨k0,⟨A',c',k1,ay,_,az⟩,k2⟩:=hc i b;have ae:g<base:=Ao ax HB.o;have k0:=(HW.o.cell (p:=⟨g,o+i*3,none⟩) ae).trans k0;have k1:=(HW.o.cell (p:=⟨g,o+i*3+1,none⟩) ae).trans k1;have k2:=(HW.o.cell (p:=⟨g,o+i*3+2,none⟩) ae).trans k2;have aj:=aA (show(Au.addsX xs (Au.begT G left i)).length<=100000 by have:=Au.addsX_up (xs:=xs) (zs:=Au.begT G left i);have:=Au.begT_len G left i;have:=HL.o;omega);obtain⟨wi,ac⟩:∃y,y=wr.alloc (.cells #[.int .i64 (G.rs[i]).l,.slice A' (G.rs[i]).r.length c',.int .i64 (G.rs[i]).p] 74):=⟨_,rfl⟩
   have af:Hid (Below wr.heap.size wr wi):=aA (by rw[ac];exact(Aq _ _).alloc (Ad _) _);have ak:wi.heap[wr.heap.size]?=some (.cells #[.int .i64 (G.rs[i]).l,.slice A' (G.rs[i]).r.length c',.int .i64 (G.rs[i]).p] 74 (0,0)):=by rw[ac];exact Az wr _
   have y0:=aM ak;have al:=aA (HW.o.trans (af.o.mono (Ag ah.o HK.o.size)));have am:=aA (HK.o.trans (.below af.o));have ao:=aA (HA.o.below af.o);have ap:=aA (zfw wi base pA pT M _ ((i:Int),0) ao.o (by unfold Gm.In;simp only;omega) aj.o);have hY:=Au.begT_yes (left:=left) b;have hN:=Au.begT_no (left:=left) b;clear hc az ay ak aj;generalize (G.rs[i]).l=lf at *;generalize (G.rs[i]).r.length=rn at *;generalize (G.rs[i]).p=rp at *;go_upto_region 4 with fail
   rw[<-ac];clear ac k0 k1 k2;by_cases he:lf=left
   ·have a0:=aA (hY he);have hq:(lf==left)=true:=by rw[BH];exact he
    clear hY hN he;go_wp2_with fail
    refine ap.o.mono ?_;rintro _ w2 ⟨rfl,aq,ar,au⟩;have a1:=aA aq;have a2:=aA (al.o.trans ar);have a3:=aA (am.o.trans au);clear aq ar au y0;go_wp2;go_roundw
    case rel=>exact⟨i+1,b,by go_num,aA (by rw[a0.o,Au.addsX_snoc];exact a1.o),a2,a3⟩
    case measure=>simp[intOf];omega
   ·have a4:=aA (hN he);have hq:(lf==left)=false:=by rw[AY];exact he
    clear hY hN he ap;go_wp2;go_roundw
    case rel=>exact⟨i+1,b,by go_num,aA (by rw[a4.o];exact ao.o),al,am⟩
    case measure=>simp[intOf];omega
  ·obtain rfl:i=G.rs.length:=by omega
   go_wp2;go_end0
   exact⟨rfl,HA.o,HW.o,HK.o⟩
end Go.Proofs.YtjjbaehamplnaaaGreat
namespace Go.Proofs
open Go.Shelf
def Tryz.sortIt_ren:Go.Shelf.Ren:=⟨fun|6=>143|15=>184|14=>183|28=>210|29=>211|20=>202|21=>203|22=>204|23=>205|24=>206|25=>207|26=>208|27=>209|46=>221|47=>222|48=>223|49=>224|50=>225|57=>233|n=>n,fun|22=>56|24=>61|25=>221|3=>3|39=>178|0=>0|53=>104|55=>232|4=>4|46=>269|45=>268|50=>54|5=>5|9=>9|66=>279|70=>283|76=>286|77=>287|n=>n,fun|n=>n⟩
theorem Tryz.sortIt:Go.Proofs.SlLaysF0.n6 Tryz.prog Tryz.sortIt_ren:={
 mixed:=by kernel_rfl
 f6:=⟨Tryz.f143.name,by decide,Tryz.func143.trans (congrArg some (by kernel_rfl))⟩
 f14:=⟨Tryz.f183.name,by decide,Tryz.func183.trans (congrArg some (by kernel_rfl))⟩
 f15:=Tryz.func184.trans (congrArg some (by kernel_rfl))
 f20:=⟨Tryz.f202.name,by decide,Tryz.func202.trans (congrArg some (by kernel_rfl))⟩
 f21:=⟨Tryz.f203.name,by decide,Tryz.func203.trans (congrArg some (by kernel_rfl))⟩
 f22:=⟨Tryz.f204.name,by decide,Tryz.func204.trans (congrArg some (by kernel_rfl))⟩
 f23:=⟨Tryz.f205.name,by decide,Tryz.func205.trans (congrArg some (by kernel_rfl))⟩
 f24:=⟨Tryz.f206.name,by decide,Tryz.func206.trans (congrArg some (by kernel_rfl))⟩
 f25:=⟨Tryz.f207.name,by decide,Tryz.func207.trans (congrArg some (by kernel_rfl))⟩
 f26:=⟨Tryz.f208.name,by decide,Tryz.func208.trans (congrArg some (by kernel_rfl))⟩
 f27:=⟨Tryz.f209.name,by decide,Tryz.func209.trans (congrArg some (by kernel_rfl))⟩
 f28:=Tryz.func210.trans (congrArg some (by kernel_rfl))
 f29:=Tryz.func211.trans (congrArg some (by kernel_rfl))
 f46:=⟨Tryz.f221.name,by decide,Tryz.func221.trans (congrArg some (by kernel_rfl))⟩
 f47:=Tryz.func222.trans (congrArg some (by kernel_rfl))
 f48:=Tryz.func223.trans (congrArg some (by kernel_rfl))
 f49:=⟨Tryz.f224.name,by decide,Tryz.func224.trans (congrArg some (by kernel_rfl))⟩
 f50:=⟨Tryz.f225.name,by decide,Tryz.func225.trans (congrArg some (by kernel_rfl))⟩
 f57:=⟨Tryz.f233.name,by decide,Tryz.func233.trans (congrArg some (by kernel_rfl))⟩
 t0:=Tryz.underlying0
 a0:=Tryz.isAgg0
 z0:=Tryz.sizeOf0
 v0:=Tryz.zeroValue0
 t3:=Tryz.underlying3
 a3:=Tryz.isAgg3
 z3:=Tryz.sizeOf3
 v3:=Tryz.zeroValue3
 t4:=Tryz.underlying4
 a4:=Tryz.isAgg4
 z4:=Tryz.sizeOf4
 v4:=Tryz.zeroValue4
 t5:=Tryz.underlying5
 a5:=Tryz.isAgg5
 z5:=Tryz.sizeOf5
 v5:=Tryz.zeroValue5
 t9:=Tryz.underlying9
 a9:=Tryz.isAgg9
 z9:=Tryz.sizeOf9
 v9:=Tryz.zeroValue9
 t22:=Tryz.underlying56
 a22:=Tryz.isAgg56
 z22:=Tryz.sizeOf56
 v22:=Tryz.zeroValue56
 t25:=Tryz.underlying221
 a25:=Tryz.isAgg221
 z25:=Tryz.sizeOf221
 v25:=Tryz.zeroValue221
 t39:=Tryz.underlying178
 a39:=Tryz.isAgg178
 z39:=Tryz.sizeOf178
 v39:=Tryz.zeroValue178
 t45:=Tryz.underlying268
 a45:=Tryz.isAgg268
 z45:=Tryz.sizeOf268
 v45:=Tryz.zeroValue268
 t46:=Tryz.underlying269
 a46:=Tryz.isAgg269
 z46:=Tryz.sizeOf269
 v46:=Tryz.zeroValue269
 t50:=Tryz.underlying54
 a50:=Tryz.isAgg54
 z50:=Tryz.sizeOf54
 v50:=Tryz.zeroValue54
 t53:=Tryz.underlying104
 a53:=Tryz.isAgg104
 z53:=Tryz.sizeOf104
 v53:=Tryz.zeroValue104
 t55:=Tryz.underlying232
 a55:=Tryz.isAgg232
 z55:=Tryz.sizeOf232
 v55:=Tryz.zeroValue232
 t66:=Tryz.underlying279
 a66:=Tryz.isAgg279
 z66:=Tryz.sizeOf279
 v66:=Tryz.zeroValue279
 t70:=Tryz.underlying283
 a70:=Tryz.isAgg283
 z70:=Tryz.sizeOf283
 v70:=Tryz.zeroValue283
 t76:=Tryz.underlying286
 a76:=Tryz.isAgg286
 z76:=Tryz.sizeOf286
 v76:=Tryz.zeroValue286
 t77:=Tryz.underlying287
 a77:=Tryz.isAgg287
 z77:=Tryz.sizeOf287
 v77:=Tryz.zeroValue287}
end Go.Proofs
