/- Part of the proofs over this program: TrimReduce, AuFn, AuWalk2, LookE, LookF, WordsU, SetW, ApQ, ItE, RowM, MapU, LkFn, AuAdd, LkSt, AuAdd2, AuBegin. -/
import Derived.Laws.BitsAllLaws
import Derived.Laws.Shifts
import Derived.Maps.Keyed
import Derived.DeepKeys4
import Derived.Test.YtcmhaemaophplaaGreatVD
import Derived.Test.YtcmhaemaophplaaGreatVJ
namespace Go.Proofs.YtcmhaemaophplaaGreat
set_option maxRecDepth 100000
set_option maxHeartbeats 40000000
open Go.RowKit
def Gm.gr0:Gm.Gr:=⟨[],[],[],0⟩
theorem zjp (w:World) (B:Nat):aT w B (.agg #[.slice none 0 0,.slice none 0 0,.slice none 0 0,.int .i64 0]) Gm.gr0:=⟨none,0,none,0,none,0,rfl,by simp[Gm.gr0],by simp[Gm.gr0],by simp[Gm.gr0],fun h=>absurd rfl h,fun h=>absurd rfl h,fun h=>absurd rfl h⟩
theorem zf8 (w:World):(Instr.build 26 #[]).run Tryz.prog w=.ok (.agg #[.slice none 0 0,.slice none 0 0,.slice none 0 0,.int .i64 0]) w:=run_build w 26 _ _ (by kernel_rfl)
noncomputable def Gm.rdE (G:Gm.Gr):Int:=if Gm.right G=true then(if Gm.tr (Gm.Gn true G.rs G.st)=true then 0 else 9) else 1
noncomputable def Gm.rdG (G:Gm.Gr):Gm.Gr:=if Gm.rdE G=0 then Gm.reduce G else Gm.gr0
noncomputable def Gm.rdL (G:Gm.Gr):List Int:=if Gm.rdE G=0 then Gm.kl G G.rs.length else []
theorem Gm.rdE_no {G:Gm.Gr} (h:Gm.right G=false):Gm.rdE G=1:=by unfold Gm.rdE;rw[h];rfl
theorem Gm.rdE_empty {G:Gm.Gr} (h:Gm.right G=true) (k:Gm.tr (Gm.Gn true G.rs G.st)=false):Gm.rdE G=9:=by unfold Gm.rdE;rw[h,k];rfl
theorem Gm.rdE_ok {G:Gm.Gr} (h:Gm.right G=true) (k:Gm.tr (Gm.Gn true G.rs G.st)=true):Gm.rdE G=0:=by unfold Gm.rdE;rw[h,k];rfl
def zbp (G:Gm.Gr) (w:World) (e:Ending) (w':World):Prop:=∃g A c,e=.returned (.tuple #[g,.slice A (Gm.rdL G).length c,.int .i64 (Gm.rdE G)])/\aT w' w'.heap.size g (Gm.rdG G)/\RdI w' w'.heap.size A (Gm.rdL G)/\Below w.heap.size w w'
theorem zbp.no {G:Gm.Gr} {w w':World} {er:Int} (h:Gm.rdE G=er) (h0:er≠0) (hb:Below w.heap.size w w'):zbp G w (.returned (.tuple #[.agg #[.slice none 0 0,.slice none 0 0,.slice none 0 0,.int .i64 0],.slice none 0 0,.int .i64 er])) w':=by
 have hL:Gm.rdL G=[]:=by unfold Gm.rdL;rw[if_neg (by rw[h];exact h0)]
 have hG:Gm.rdG G=Gm.gr0:=by unfold Gm.rdG;rw[if_neg (by rw[h];exact h0)]
 refine⟨_,none,0,by rw[hL,h];rfl,?_,?_,hb⟩
 ·rw[hG];exact zjp _ _
 ·rw[hL];exact RdI.nil _ _ _
theorem zbp.ok {G:Gm.Gr} {w w':World} {g:Value} {A:Option Addr} {c:Nat} {ks:List Int} (h:Gm.rdE G=0) (hk:ks=Gm.kl G G.rs.length) (hg:aT w' w'.heap.size g (Gm.reduce G)) (hr:RdI w' w'.heap.size A ks) (hb:Below w.heap.size w w'):zbp G w (.returned (.tuple #[g,.slice A ks.length c,.int .i64 0])) w':=by
 have hL:Gm.rdL G=ks:=by unfold Gm.rdL;rw[if_pos h,hk]
 have hG:Gm.rdG G=Gm.reduce G:=by unfold Gm.rdG;rw[if_pos h]
 exact⟨g,A,c,by rw[hL,h],by rw[hG];exact hg,by rw[hL];exact hr,hb⟩
theorem zee (v:Value) (G:Gm.Gr) (B:Nat) (w:World) (hg:aT w B v G) (hf:Gm.Fit G) (hB:B<=w.heap.size) :
  Calls Tryz.prog 69 #[v] w (zbp G w):=by
 have H1:=aA (fun(x:World) (h:Below w.heap.size w x)=>zaK v G B x (hg.below h hB) hf (Nat.le_trans hB h.size));have H2:=aA (fun(x:World) (h:Below w.heap.size w x)=>zaH v G B x (hg.below h hB) hf (Nat.le_trans hB h.size));have H3:=aA (fun(q:Gm.right G=true) (x:World) (h:Below w.heap.size w x)=>ziL v G B x (hg.below h hB) hf (Gm.right_ok.1 q) (Nat.le_trans hB h.size));have H4:=aA (fun(q:Gm.right G=true) (hp:Gm.Gn true G.rs G.st) (x:World) (h:Below w.heap.size w x) (AK:Option Addr) (cK:Nat) (hk:RdI x x.heap.size AK (Gm.kl G G.rs.length))=>zeg v G B x.heap.size AK cK x (hg.below h hB) hf (Gm.right_ok.1 q) hp (Nat.le_trans hB h.size) hk (Nat.le_refl _));have hbg:=fun w=>zf8 w;obtain⟨AT,cT,AN,cN,AR,cR,rfl,_⟩:=hg;obtain⟨w1,hw1⟩:∃y,y=(w.alloc (.cells #[.slice AT G.ts.length cT,.slice AN G.ns.length cN,.slice AR G.rs.length cR,.int .i64 G.st] 26)).alloc (.cells #[.slice none 0 0,.slice none 0 0,.slice none 0 0,.int .i64 0] 26):=⟨_,rfl⟩
 have hs1:w1.heap.size=w.heap.size+2:=by rw[hw1];simp
 have HB1:Hid (Below w.heap.size w w1):=aA (by rw[hw1];exact((Below.refl _ w).alloc (Nat.le_refl _) _).alloc (by simp) _);have HX0:Hid (w1.heap[w.heap.size]?=some (.cells #[.slice AT G.ts.length cT,.slice AN G.ns.length cN,.slice AR G.rs.length cR,.int .i64 G.st] 26 (0,0))):=aA (by rw[hw1,Below.heap_alloc _ _ _ (by simp)];exact heap_alloc_new w _);have HX1:Hid (w1.heap[w.heap.size+1]?=some (.cells #[.slice none 0 0,.slice none 0 0,.slice none 0 0,.int .i64 0] 26 (0,0))):=aA (by rw[hw1];have:=heap_alloc_new (w.alloc (.cells #[.slice AT G.ts.length cT,.slice AN G.ns.length cN,.slice AR G.rs.length cR,.int .i64 G.st] 26)) (.cells #[.slice none 0 0,.slice none 0 0,.slice none 0 0,.int .i64 0] 26);simpa using this);have HS1:=aA hs1;have HQ:=aA (fun(y:World) (h:Below w1.heap.size w1 y)=>(h.block w.heap.size (by omega)).trans HX0.o);have HZ:=aA (fun(y:World) (h:Below w1.heap.size w1 y)=>(h.block (w.heap.size+1) (by omega)).trans HX1.o);have HBX:=aA (fun(y:World) (h:Below w1.heap.size w1 y)=>HB1.o.trans (h.mono (by omega)));have c0:w1.cell? ⟨w.heap.size,0,none⟩=some (.slice AT G.ts.length cT):=by rw[cell_of_row w1 _ 0 _ _ _ HX0.o];rfl
 have c1:w1.cell? ⟨w.heap.size,1,none⟩=some (.slice AN G.ns.length cN):=by rw[cell_of_row w1 _ 1 _ _ _ HX0.o];rfl
 have c2:w1.cell? ⟨w.heap.size,2,none⟩=some (.slice AR G.rs.length cR):=by rw[cell_of_row w1 _ 2 _ _ _ HX0.o];rfl
 have c3:w1.cell? ⟨w.heap.size,3,none⟩=some (.int .i64 G.st):=by rw[cell_of_row w1 _ 3 _ _ _ HX0.o];rfl
 have hd0:w.heap.size<w1.heap.size:=by omega
 clear hf hs1;cases q:Gm.right G
 ·rw[q]at H1;have HE:=aA (Gm.rdE_no q);clear q H2 H3 H4
  go_enter Tryz.func69,Tryz.ntmps69
  go_upto_region 1 with fail
  rw[<-hw1];clear hw1;go_wp2_with fail
  refine(H1.o _ HB1.o).mono ?_;rintro _ w2 ⟨rfl,hb2⟩;have g0:w2.cell? ⟨w.heap.size+1,0,none⟩=some (.slice none 0 0):=by rw[cell_of_row w2 _ 0 _ _ _ (HZ.o w2 hb2)];rfl
  have g1:w2.cell? ⟨w.heap.size+1,1,none⟩=some (.slice none 0 0):=by rw[cell_of_row w2 _ 1 _ _ _ (HZ.o w2 hb2)];rfl
  have g2:w2.cell? ⟨w.heap.size+1,2,none⟩=some (.slice none 0 0):=by rw[cell_of_row w2 _ 2 _ _ _ (HZ.o w2 hb2)];rfl
  have g3:w2.cell? ⟨w.heap.size+1,3,none⟩=some (.int .i64 0):=by rw[cell_of_row w2 _ 3 _ _ _ (HZ.o w2 hb2)];rfl
  have e0:=frozen_of_row w2 _ 0 _ _ (HZ.o w2 hb2);have e1:=frozen_of_row w2 _ 1 _ _ (HZ.o w2 hb2);have e2:=frozen_of_row w2 _ 2 _ _ (HZ.o w2 hb2);have e3:=frozen_of_row w2 _ 3 _ _ (HZ.o w2 hb2);have lz:=(Array.getElem?_eq_some_iff.1 (HZ.o w2 hb2)).1;have HBF:=aA (fun u1 u2 u3 u4=>((((HBX.o w2 hb2).setCell (p:=⟨w.heap.size+1,0,none⟩) (by simp only;omega) u1).setCell (p:=⟨w.heap.size+1,1,none⟩) (by simp only;omega) u2).setCell (p:=⟨w.heap.size+1,2,none⟩) (by simp only;omega) u3).setCell (p:=⟨w.heap.size+1,3,none⟩) (by simp only;omega) u4);clear c0 c1 c2 c3 hb2 H1;go_wp2;refine bodyPost_ret (v:=.tuple #[.agg #[.slice none 0 0,.slice none 0 0,.slice none 0 0,.int .i64 0],.slice none 0 0,.int .i64 1]) (by simp[results,Tryz.results69,go_sem,g0,g1,g2,g3]) rfl ?_;exact zbp.no HE.o (by decide) (HBF.o _ _ _ _)
 ·have HQ1:=aA q;have HOK:=aA (Gm.right_ok.1 q);have H2:=aA (fun x h=>(show Calls _ _ _ _ (zh1 _ _) from(H2.o x h).mono fun e w' k=>k.1 q));have H3:=aA (H3.o q);have H4:=aA (H4.o q);rw[q]at H1;clear q;obtain⟨T,hT⟩:∃x,x=Gm.gn true G.rs G.ns.length:=⟨_,rfl⟩
  have HTl:Hid (T.length=G.ns.length):=aA (by rw[hT,Gm.gn_len]);rw[<-hT]at H2;have hst:=HOK.o.s0;have hst1:=HOK.o.s1;obtain⟨m,hm⟩:∃m:Nat,G.st=(m:Int):=⟨G.st.toNat,by omega⟩
  obtain⟨tb,htb⟩:∃b,b=T.getD m false:=⟨_,rfl⟩
  have HTM:Hid (tb=Gm.tr (Gm.Gn true G.rs G.st)):=aA (by rw[htb,hT,Gm.gn_at _ _ _ _ (by omega),hm]);have HTB:=aA htb;have HM:=aA hm;have hmn:m<G.ns.length:=by omega
  have hmi:(m:Int)<(G.ns.length:Int):=by omega
  clear hT hst hst1 hm htb
  go_enter Tryz.func69,Tryz.ntmps69
  go_upto_region 1 with fail
  rw[<-hw1];clear hw1;go_upto_region 3 with fail
  refine(H1.o _ HB1.o).mono ?_;rintro _ w2 ⟨rfl,hb2⟩;have HB2:=aA hb2;clear hb2 c0 c1 c2 c3 H1;go_upto_region 3 with fail
  go_cut [16] (fun v16 wx=>v16=.bool (!tb)/\Below w1.heap.size w1 wx)
  case first =>
   have q0:=fun y:Calm.On w2.heap.size w2=>(show y.1.cell? ⟨w.heap.size,0,none⟩=some (.slice AT G.ts.length cT) by rw[cell_of_row y.1 _ 0 _ _ _ (HQ.o y.1 (HB2.o.trans (y.2.mono HB2.o.size)))];rfl)
   have q1:=fun y:Calm.On w2.heap.size w2=>(show y.1.cell? ⟨w.heap.size,1,none⟩=some (.slice AN G.ns.length cN) by rw[cell_of_row y.1 _ 1 _ _ _ (HQ.o y.1 (HB2.o.trans (y.2.mono HB2.o.size)))];rfl)
   have q2:=fun y:Calm.On w2.heap.size w2=>(show y.1.cell? ⟨w.heap.size,2,none⟩=some (.slice AR G.rs.length cR) by rw[cell_of_row y.1 _ 2 _ _ _ (HQ.o y.1 (HB2.o.trans (y.2.mono HB2.o.size)))];rfl)
   have q3:=fun y:Calm.On w2.heap.size w2=>(show y.1.cell? ⟨w.heap.size,3,none⟩=some (.int .i64 m) by rw[cell_of_row y.1 _ 3 _ _ _ (HQ.o y.1 (HB2.o.trans (y.2.mono HB2.o.size))),<-HM.o];rfl)
   rw[HM.o]at H2;have HD2:Hid (Below w2.heap.size w2 w2.drew):=aA (aB (Below.refl _ _) 1);refine CalmN.region_tree (fun x=>∃y:Calm.On w2.heap.size w2,x=y.1) (.one [0,2,3] 1 (.fin [4,5,6])) (by kernel_rfl) (by kernel_rfl) (fun _ _ d _ _ h=>by cases d <;> exact h) ⟨⟨w2.drew,HD2.o⟩,rfl⟩ ?_;simp only[CalmN.wpT,CalmN.wpSt,CalmN.pickOps,List.getElem?_toArray,List.getElem?_cons_zero,List.getElem?_cons_succ];repeat (go_big_quiet_step (fail))
   refine wpQuiet_nil ?_;clear q0 q1 q2 q3;obtain⟨wd,hwd⟩:∃y,y=w2.drew:=⟨_,rfl⟩
   rw[<-hwd]at HD2 ⊢;clear hwd;intro KK hKK;rw[if_pos (by rfl)];go_wp2_with fail
   refine(H2.o wd (HBX.o _ (HB2.o.trans (HD2.o.mono HB2.o.size)))).mono ?_;rintro _ w3 ⟨ga,rfl,hga,hua,hb3⟩;rw[HTl.o];have hb3':Below w2.heap.size w2 w3:=HD2.o.trans (hb3.mono HD2.o.size);have HFI:=aA (HB2.o.trans (hb3'.mono HB2.o.size));go_wp2_with fail
   refine hKK _ _ ⟨⟨w3,hb3'⟩,rfl⟩ (fun x=>∃y:Calm.On w3.heap.size w3,x=y.1) (fun x h=>by obtain⟨y,rfl⟩:=h;exact⟨⟨y.1,hb3'.trans (y.2.mono hb3'.size)⟩,rfl⟩) ⟨⟨w3,Below.refl _ _⟩,rfl⟩ ?_;have bk:=fun y:Calm.On w3.heap.size w3=>(y.2.cell (p:=⟨ga,m,none⟩) hua.lt).trans (hua.cell m (by rw[HTl.o];exact hmn));rw[<-HTB.o]at bk;clear hb3 hga hua hb3' hKK;repeat (go_big_quiet_step (fail))
   refine wpQuiet_nil ?_;go_wp2_with fail
   go_meet
   case rel=>exact⟨rfl,HFI.o⟩
  case rest =>
   obtain⟨rfl,hbc⟩:=hcut;rw[HTM.o];cases hp:Gm.tr (Gm.Gn true G.rs G.st)
   ·have HE:=aA (Gm.rdE_empty HQ1.o hp);have g0:wc.cell? ⟨w.heap.size+1,0,none⟩=some (.slice none 0 0):=by rw[cell_of_row wc _ 0 _ _ _ (HZ.o wc hbc)];rfl
    have g1:wc.cell? ⟨w.heap.size+1,1,none⟩=some (.slice none 0 0):=by rw[cell_of_row wc _ 1 _ _ _ (HZ.o wc hbc)];rfl
    have g2:wc.cell? ⟨w.heap.size+1,2,none⟩=some (.slice none 0 0):=by rw[cell_of_row wc _ 2 _ _ _ (HZ.o wc hbc)];rfl
    have g3:wc.cell? ⟨w.heap.size+1,3,none⟩=some (.int .i64 0):=by rw[cell_of_row wc _ 3 _ _ _ (HZ.o wc hbc)];rfl
    have e0:=frozen_of_row wc _ 0 _ _ (HZ.o wc hbc);have e1:=frozen_of_row wc _ 1 _ _ (HZ.o wc hbc);have e2:=frozen_of_row wc _ 2 _ _ (HZ.o wc hbc);have e3:=frozen_of_row wc _ 3 _ _ (HZ.o wc hbc);have lz:=(Array.getElem?_eq_some_iff.1 (HZ.o wc hbc)).1;have HBF:=aA (fun u1 u2 u3 u4=>((((HBX.o wc hbc).setCell (p:=⟨w.heap.size+1,0,none⟩) (by simp only;omega) u1).setCell (p:=⟨w.heap.size+1,1,none⟩) (by simp only;omega) u2).setCell (p:=⟨w.heap.size+1,2,none⟩) (by simp only;omega) u3).setCell (p:=⟨w.heap.size+1,3,none⟩) (by simp only;omega) u4);clear hp HTM H2 H3 H4 hbc;go_wp2;refine bodyPost_ret (v:=.tuple #[.agg #[.slice none 0 0,.slice none 0 0,.slice none 0 0,.int .i64 0],.slice none 0 0,.int .i64 9]) (by simp[results,Tryz.results69,go_sem,g0,g1,g2,g3]) rfl ?_;exact zbp.no HE.o (by decide) (HBF.o _ _ _ _)
   ·have HE:=aA (Gm.rdE_ok HQ1.o hp);have H4:=aA (H4.o (Gm.tr_iff.1 hp));have HBC:=aA hbc;have c0:wc.cell? ⟨w.heap.size,0,none⟩=some (.slice AT G.ts.length cT):=by rw[cell_of_row wc _ 0 _ _ _ (HQ.o wc hbc)];rfl
    have c1:wc.cell? ⟨w.heap.size,1,none⟩=some (.slice AN G.ns.length cN):=by rw[cell_of_row wc _ 1 _ _ _ (HQ.o wc hbc)];rfl
    have c2:wc.cell? ⟨w.heap.size,2,none⟩=some (.slice AR G.rs.length cR):=by rw[cell_of_row wc _ 2 _ _ _ (HQ.o wc hbc)];rfl
    have c3:wc.cell? ⟨w.heap.size,3,none⟩=some (.int .i64 G.st):=by rw[cell_of_row wc _ 3 _ _ _ (HQ.o wc hbc)];rfl
    have lc0:=block_lt_of_cell c0;obtain⟨ks,hks⟩:∃ks,ks=Gm.kl G G.rs.length:=⟨_,rfl⟩
    rw[<-hks]at H3 H4;have HKS:=aA hks;clear hp HTM H2 hbc hks;go_wp2_with fail
    refine(H3.o _ (HBX.o _ HBC.o)).mono ?_;rintro _ w4 ⟨u,rfl,ho4,hb4⟩;have HB4:=aA (HBC.o.trans (hb4.mono HBC.o.size));obtain⟨A4,c4,rfl,_,_,hr4⟩:=ho4.form;have HR4:=aA hr4;have HO4:=aA ho4;have HL4:=aA (Nat.le_trans HBC.o.size (Nat.le_refl wc.heap.size));clear c0 c1 c2 c3 lc0 hb4 hr4 ho4;have c0:w4.cell? ⟨w.heap.size,0,none⟩=some (.slice AT G.ts.length cT):=by rw[cell_of_row w4 _ 0 _ _ _ (HQ.o w4 HB4.o)];rfl
    have c1:w4.cell? ⟨w.heap.size,1,none⟩=some (.slice AN G.ns.length cN):=by rw[cell_of_row w4 _ 1 _ _ _ (HQ.o w4 HB4.o)];rfl
    have c2:w4.cell? ⟨w.heap.size,2,none⟩=some (.slice AR G.rs.length cR):=by rw[cell_of_row w4 _ 2 _ _ _ (HQ.o w4 HB4.o)];rfl
    have c3:w4.cell? ⟨w.heap.size,3,none⟩=some (.int .i64 G.st):=by rw[cell_of_row w4 _ 3 _ _ _ (HQ.o w4 HB4.o)];rfl
    have lc0:=block_lt_of_cell c0;go_wp2_with fail
    refine(H4.o w4 (HBX.o _ HB4.o) A4 c4 HR4.o).mono ?_;rintro _ w5 ⟨g,rfl,hg5,hb5⟩;have HB5:=aA (HB4.o.trans (hb5.mono HB4.o.size));have HO5:=aA (HO4.o.below hb5 (Nat.le_refl _));have HG5:=aA hg5;obtain⟨u0,u1,u2,rfl,ht5,hn5,hr5⟩:=hg5;obtain⟨A0,d0,rfl,_,_⟩:=aO ht5;obtain⟨A1,d1,rfl,_,_⟩:=aO hn5;obtain⟨A2,d2,rfl,_,_⟩:=zab hr5;have HL5:=aA (HB4.o.size);clear ht5 hn5 hr5;clear c0 c1 c2 c3 lc0 hb5 HR4 HO4;have g0:w5.cell? ⟨w.heap.size+1,0,none⟩=some (.slice none 0 0):=by rw[cell_of_row w5 _ 0 _ _ _ (HZ.o w5 HB5.o)];rfl
    have g1:w5.cell? ⟨w.heap.size+1,1,none⟩=some (.slice none 0 0):=by rw[cell_of_row w5 _ 1 _ _ _ (HZ.o w5 HB5.o)];rfl
    have g2:w5.cell? ⟨w.heap.size+1,2,none⟩=some (.slice none 0 0):=by rw[cell_of_row w5 _ 2 _ _ _ (HZ.o w5 HB5.o)];rfl
    have g3:w5.cell? ⟨w.heap.size+1,3,none⟩=some (.int .i64 0):=by rw[cell_of_row w5 _ 3 _ _ _ (HZ.o w5 HB5.o)];rfl
    have e0:=frozen_of_row w5 _ 0 _ _ (HZ.o w5 HB5.o);have e1:=frozen_of_row w5 _ 1 _ _ (HZ.o w5 HB5.o);have e2:=frozen_of_row w5 _ 2 _ _ (HZ.o w5 HB5.o);have e3:=frozen_of_row w5 _ 3 _ _ (HZ.o w5 HB5.o);have lz:=(Array.getElem?_eq_some_iff.1 (HZ.o w5 HB5.o)).1;have HBF:=aA (fun u1 u2 u3 u4=>((((HBX.o w5 HB5.o).setCell (p:=⟨w.heap.size+1,0,none⟩) (by simp only;omega) u1).setCell (p:=⟨w.heap.size+1,1,none⟩) (by simp only;omega) u2).setCell (p:=⟨w.heap.size+1,2,none⟩) (by simp only;omega) u3).setCell (p:=⟨w.heap.size+1,3,none⟩) (by simp only;omega) u4);have hgf:=aF (aF (aF (aF (World.grownBy.refl w5 (some (w.heap.size+1))) 0 (.slice A0 (Gm.reduce G).ts.length d0)) 1 (.slice A1 (Gm.reduce G).ns.length d1)) 2 (.slice A2 (Gm.reduce G).rs.length d2)) 3 (.int .i64 (Gm.reduce G).st);have HGR:=aA (HG5.o.grown hgf (fun g e=>by injection e with e;have:=HS1.o;have:=HL5.o;omega));have HRF:=aA (HO5.o.far hgf (by have:=HS1.o;have:=HL4.o;omega));generalize hRG:Gm.reduce G=RG at *;have HRG:=aA hRG;clear hgf HG5 HO5 hRG;go_wp2;refine bodyPost_ret (v:=.tuple #[.agg #[.slice A0 RG.ts.length d0,.slice A1 RG.ns.length d1,.slice A2 RG.rs.length d2,.int .i64 RG.st],.slice A4 ks.length c4,.int .i64 0]) (by simp[results,Tryz.results69,go_sem,g0,g1,g2,g3]) rfl ?_;exact zbp.ok HE.o HKS.o (by rw[HRG.o];exact HGR.o.rd) HRF.o.rdOf (HBF.o _ _ _ _)
theorem Gm.rdG_fit {G:Gm.Gr} (hf:Gm.Fit G):Gm.Fit (Gm.rdG G):=by
 unfold Gm.rdG;split
 case isFalse=>exact⟨by simp[Gm.gr0],by simp[Gm.gr0],by simp[Gm.gr0],by unfold Gm.In;simp[Gm.gr0]⟩
 case isTrue h =>
  have hr:Gm.right G=true:=by
   cases q:Gm.right G
   ·rw[Gm.rdE_no q]at h;cases h
   ·rfl
  have hp:Gm.Gn true G.rs G.st:=by
   cases q:Gm.tr (Gm.Gn true G.rs G.st)
   ·rw[Gm.rdE_empty hr q]at h;cases h
   ·exact Gm.tr_iff.1 q
  have hok:=Gm.right_ok.1 hr;have hle:=Gm.olds_le hok;have h40:=(Gm.nons_iff G).1 hok.n;have hps:∀ {l:Int},l∈Gm.olds G->Gm.In (Gm.pos (Gm.olds G) l):=fun hl=>by have:=Gm.pos_lt hl;unfold Gm.In;omega
  refine⟨hf.t,fun s hs=>?_,fun y hy=>?_,hps (Gm.st_in hp)⟩
  ·obtain⟨l,hl,rfl⟩:=List.mem_map.1 hs
   have:=Gm.olds_lt hok hl
   rw[List.getD_eq_getElem?_getD,List.getElem?_eq_getElem (by omega),Option.getD_some];exact hf.n _ (List.getElem_mem _)
  ·obtain⟨x,hx,rfl⟩:=List.mem_map.1 hy;have hfx:=hf.r x (Gm.mem_krs.1 hx).1;refine⟨hps (Gm.use_left hx),hfx.2.1,fun z hz=>?_⟩;obtain⟨u,hu,rfl⟩:=List.mem_map.1 hz;unfold Gm.re1;by_cases h0:u<0
   ·rw[if_pos h0]
    have:=Gm.pos_lt (Gm.use_sym hx hu h0)
    unfold Gm.In;omega
   ·rw[if_neg h0];exact hfx.2.2 u hu
noncomputable def Gm.isB (G:Gm.Gr):Bool:=decide (Gm.rdE G=0)&&Gm.same G (Gm.rdG G)
theorem Gm.rdE_in (G:Gm.Gr):Gm.rdE G=0\/Gm.rdE G=1\/Gm.rdE G=9:=by
 unfold Gm.rdE;split
 ·split
  ·exact .inl rfl
  ·exact .inr (.inr rfl)
 ·exact .inr (.inl rfl)
theorem zjQ (v:Value) (G:Gm.Gr) (B:Nat) (w:World) (hg:aT w B v G) (hf:Gm.Fit G) (hB:B<=w.heap.size) :
  Calls Tryz.prog 45 #[v] w fun e w'=>e=.returned (.bool (Gm.isB G))/\Below w.heap.size w w':=by
 have H1:=aA (fun(x:World) (h:Below w.heap.size w x)=>zee v G B x (hg.below h hB) hf (Nat.le_trans hB h.size));have H2:=aA (fun(x:World) (h:Below w.heap.size w x) (u:Value) (B':Nat) (hu:aT x B' u (Gm.rdG G)) (hB':B'<=x.heap.size)=>zhu v u G (Gm.rdG G) B B' x (hg.below h hB) hu hf (Gm.rdG_fit hf) (Nat.le_trans hB h.size) hB');have hin:=Gm.rdE_in G;have HI:Hid (Gm.isB G=(decide (Gm.rdE G=0)&&Gm.same G (Gm.rdG G))):=aA rfl;obtain⟨AT,cT,AN,cN,AR,cR,rfl,_⟩:=hg;have HS0:=aA (One.start w #[.slice AT G.ts.length cT,.slice AN G.ns.length cN,.slice AR G.rs.length cR,.int .i64 G.st]);unfold zbp at H1;generalize Gm.rdL G=L at *;generalize Gm.rdE G=er at *;generalize Gm.rdG G=RG at *;clear hf;by_cases he:er=0
 ·have HX:Hid (Gm.isB G=Gm.same G RG):=aA (by rw[HI.o,decide_eq_true he];rfl);subst he;clear hin HI
  go_enter Tryz.func45,Tryz.ntmps45
  go_wp2_with fail
  refine(H1.o _ HS0.o.below).mono ?_;rintro _ w2 ⟨g,A,c,rfl,hg2,hr2,hb2⟩;have HB2:=aA (HS0.o.on hb2);have HG2:=aA hg2;obtain⟨A0,d0,A1,d1,A2,d2,rfl,_⟩:=hg2;have HT0:=aA (One.start w2 #[.slice A0 RG.ts.length d0,.slice A1 RG.ns.length d1,.slice A2 RG.rs.length d2,.int .i64 RG.st]);have HB3:=aA (HB2.o.on HT0.o.below);have x0:=HB3.o.c 0 _ rfl;have x1:=HB3.o.c 1 _ rfl;have x2:=HB3.o.c 2 _ rfl;have x3:=HB3.o.c 3 _ rfl;have hz2:w.heap.size<w2.heap.size:=HB2.o.size;clear hr2 hb2;go_wp2_with fail
  refine(H2.o _ HB3.o.below _ w2.heap.size (HG2.o.below HT0.o.below (Nat.le_refl _)) HT0.o.below.size).mono ?_;rintro _ w4 ⟨rfl,hb4⟩;have HB4:=aA (HB3.o.on hb4);clear hb4 x0 x1 x2 x3;go_wp2;go_ret
  exact⟨by rw[HX.o];rfl,HB4.o.below⟩
 ·have HX:Hid (Gm.isB G=false):=aA (by rw[HI.o,decide_eq_false he];rfl);have he2:(er==0)=false:=by simpa using he
  clear HI H2
  go_enter Tryz.func45,Tryz.ntmps45
  go_wp2_with fail
  refine(H1.o _ HS0.o.below).mono ?_;rintro _ w2 ⟨g,A,c,rfl,hg2,hr2,hb2⟩;have HB2:=aA (HS0.o.on hb2);obtain⟨A0,d0,A1,d1,A2,d2,rfl,_⟩:=hg2;clear hr2 hb2;go_wp2;go_ret
  exact⟨by rw[HX.o];rfl,(HB2.o.alloc _).below⟩
namespace Au
def rOk (G:Gm.Gr) (r:Int):Bool:=decide (-1<=r)&&decide (r<G.rs.length)
theorem rOk_iff {G:Gm.Gr} {r:Int}:rOk G r=true ↔ -1<=r/\r<G.rs.length:=by unfold rOk;simp
theorem isI_no {G:Gm.Gr} {x:It} (h:rOk G x.1=false):isI G x=false:=by
 unfold rOk at h;unfold isI;rw[h];rfl
theorem isI_ok {G:Gm.Gr} {x:It} (h:rOk G x.1=true):isI G x=(decide (0<=x.2)&&decide (x.2<=(sy G x.1).length)):=by
 unfold rOk at h;unfold isI;rw[h,Bool.true_and]
theorem sy_non {G:Gm.Gr} {k:Nat} (h:k<G.rs.length):sy G (k:Int)=(G.rs[k]).r:=by
 unfold sy;rw[if_neg (by omega),List.getD_eq_getElem?_getD,show((k:Int)).toNat=k by omega,List.getElem?_eq_getElem h,Option.getD_some]
def nxP (G:Gm.Gr) (x:It):Option Int:=if isI G x=true then nx G x else none
theorem nxP_is {G:Gm.Gr} {x:It} (h:isI G x=true):nxP G x=nx G x:=by unfold nxP;rw[if_pos h]
theorem nx_at {G:Gm.Gr} {x:It} (h0:0<=x.2) (h1:x.2<(sy G x.1).length):nx G x=some ((sy G x.1).getD x.2.toNat 0):=by
 unfold nx;rw[List.getD_eq_getElem?_getD,List.getElem?_eq_getElem (by omega:x.2.toNat<(sy G x.1).length)];rfl
theorem nxP_no {G:Gm.Gr} {x:It} (h:rOk G x.1=false):nxP G x=none:=by unfold nxP;rw[isI_no h];rfl
theorem nxP_out {G:Gm.Gr} {x:It} (h:x.2<0\/(sy G x.1).length<=x.2):nxP G x=none:=by
 unfold nxP;split
 ·rename_i hi
  have:=isI_iff.1 hi
  unfold nx;exact List.getElem?_eq_none (by omega)
 ·rfl
theorem nxP_in {G:Gm.Gr} {x:It} (hr:rOk G x.1=true) (h0:0<=x.2) (h1:x.2<(sy G x.1).length):nxP G x=some ((sy G x.1).getD x.2.toNat 0):=by
 unfold nxP;rw[if_pos (isI_iff.2 ⟨rOk_iff.1 hr,h0,by omega⟩),nx_at h0 h1]
end Au
theorem zdi (z:Int) (hz:-9223372036854775808<=z) (hz':z<=9223372036854775807) (w:World) :
  Calls Tryz.prog 108 #[.int .i64 z] w fun e w'=>e=.returned (.int .i64 (-1-z))/\w'=w:=by
 have hs:IntKind.i64.wrap (-1-z) = -1-z:=IntWalk.i64_in _ (by omega);clear hz hz'
 go_enter Tryz.func108,Tryz.ntmps108
 go_wp2;go_ret
 exact⟨rfl,rfl⟩
theorem zcM (z:Int) (w:World) :
  Calls Tryz.prog 106 #[.int .i64 z] w fun e w'=>e=.returned (.bool (decide (z<0)))/\w'=w:=by
 go_enter Tryz.func106,Tryz.ntmps106
 go_wp2;go_ret
 exact⟨rfl,rfl⟩
def zbS (L:List Int) (w:World) (e:Ending) (w':World):Prop:=∃A c,e=.returned (.tuple #[.slice A L.length c,.bool true])/\L.length<=c/\c<=9223372036854775807/\RdI w' w'.heap.size A L/\Below w.heap.size w w'
theorem zcK (v:Value) (G:Gm.Gr) (B:Nat) (r:Int) (w:World) (hg:aT w B v G) (hf:Gm.Fit G) (hB:B<=w.heap.size) (hr:Au.rOk G r=true) :
  Calls Tryz.prog 111 #[v,.int .i64 r] w (zbS (Au.sy G r) w):=by
 have hr:=Au.rOk_iff.1 hr;have hst:=hf.s;unfold Gm.In at hst;have HX:=aA (fun w=>zdi G.st hst.1 hst.2 w);obtain⟨AT,cT,AN,cN,AR,cR,rfl,⟨hlT,hmT⟩,⟨hlN,hmN⟩,⟨hlR,hmR⟩,_,_,hR⟩:=hg;have HS0:=aA (bK.start 26 w #[.slice AT G.ts.length cT,.slice AN G.ns.length cN,.slice AR G.rs.length cR,.int .i64 G.st]);have x2:=HS0.o.c 2 _ rfl;have x3:=HS0.o.c 3 _ rfl;clear hf hst;unfold zbS;by_cases h1:r = -1
 ·subst h1;have e:Au.sy G (-1)=[-1-G.st]:=rfl;have HL:=aA (ziG (w.alloc (.cells #[.slice AT G.ts.length cT,.slice AN G.ns.length cN,.slice AR G.rs.length cR,.int .i64 G.st] 26)) [-1-G.st]);rw[e];clear hr hR e
  go_enter Tryz.func111,Tryz.ntmps111
  go_wp2_with fail
  refine(HX.o _).mono ?_;rintro _ _ ⟨rfl,rfl⟩;go_wp2
  go_ret2
  exact⟨_,_,rfl,by simp,by simp,by simpa[zbA] using HL.o.1,HS0.o.below.trans (HL.o.2.mono (by simp))⟩
 ·obtain⟨k,rfl⟩:∃k:Nat,r=(k:Int):=⟨r.toNat,by omega⟩
  have hlt:k<G.rs.length:=by omega
  obtain⟨g,o,rfl,hgB,hc⟩:=hR (by omega);obtain⟨_,⟨A',c',k1,hlc,hmc,hri⟩,_⟩:=hc k hlt;have k1:=(HS0.o.below.cell (p:=⟨g,o+k*3+1,none⟩) (Nat.lt_of_lt_of_le hgB hB)).trans k1;have HRI:=aA ((hri.below HS0.o.below hB).more (B':=w.heap.size+1) (by omega));have h2:((k:Int) == -1)=false:=by rw[beq_eq_false_iff_ne];omega
  have h3:(k:Int)<(G.rs.length:Int):=by omega
  rw[Au.sy_non hlt];clear hc hri hR hr h1 HX;generalize (G.rs[k]).r=L at *
  go_enter Tryz.func111,Tryz.ntmps111
  go_wp2
  go_ret2
  exact⟨_,_,rfl,hlc,hmc,by simpa using HRI.o,HS0.o.below⟩
theorem zd2 (v:Value) (G:Gm.Gr) (B:Nat) (r:Int) (w:World) (hg:aT w B v G) (hr:Au.rOk G r=false) :
  Calls Tryz.prog 111 #[v,.int .i64 r] w fun e w'=>e=.returned (.tuple #[.slice none 0 0,.bool false])/\Below w.heap.size w w':=by
 have hr:¬(-1<=r/\r<G.rs.length):=fun h=>by rw[Au.rOk_iff.2 h]at hr;cases hr
 obtain⟨AT,cT,AN,cN,AR,cR,rfl,_,_,⟨hlR,hmR⟩,_,_,_⟩:=hg;have HS0:=aA (bK.start 26 w #[.slice AT G.ts.length cT,.slice AN G.ns.length cN,.slice AR G.rs.length cR,.int .i64 G.st]);have x2:=HS0.o.c 2 _ rfl;have h1:(r == -1)=false:=by rw[beq_eq_false_iff_ne];omega
 by_cases h0:0<=r
 ·have h2:(G.rs.length:Int)<=r:=by omega
  clear hr
  go_enter Tryz.func111,Tryz.ntmps111
  go_wp2
  go_ret2
  exact⟨rfl,HS0.o.below⟩
 ·clear hr
  go_enter Tryz.func111,Tryz.ntmps111
  go_wp2
  go_ret2
  exact⟨rfl,HS0.o.below⟩
abbrev itV (x:Au.It):Value:=.agg #[.int .i64 x.1,.int .i64 x.2]
theorem zhX (v:Value) (G:Gm.Gr) (B:Nat) (x:Au.It) (w:World) (hg:aT w B v G) (hf:Gm.Fit G) (hB:B<=w.heap.size) :
  Calls Tryz.prog 105 #[v,itV x] w fun e w'=>e=.returned (.bool (Au.isI G x))/\Below w.heap.size w w':=by
 have HG:=aA hg;obtain⟨AT,cT,AN,cN,AR,cR,rfl,_⟩:=hg;have HS0:=aA (bP.start 26 60 w #[.slice AT G.ts.length cT,.slice AN G.ns.length cN,.slice AR G.rs.length cR,.int .i64 G.st] #[.int .i64 x.1,.int .i64 x.2]);have g0:=HS0.o.c1 0 _ rfl;have g1:=HS0.o.c1 1 _ rfl;have g2:=HS0.o.c1 2 _ rfl;have g3:=HS0.o.c1 3 _ rfl;have i0:=HS0.o.c2 0 _ rfl;have i1:=HS0.o.c2 1 _ rfl;cases hr:Au.rOk G x.1
 ·have HR:=aA (fun y (h:Below w.heap.size w y)=>zd2 _ G B x.1 y (HG.o.below h hB) hr);rw[Au.isI_no hr];clear hr hf
  go_enter Tryz.func105,Tryz.ntmps105
  go_wp2_with fail
  refine(HR.o _ HS0.o.below).mono ?_;rintro _ w2 ⟨rfl,hb⟩;have HB:=aA (HS0.o.on hb);clear hb g0 g1 g2 g3 i0 i1;go_wp2;go_ret
  exact⟨rfl,HB.o.below⟩
 ·have HR:=aA (fun y (h:Below w.heap.size w y)=>zcK _ G B x.1 y (HG.o.below h hB) hf (Nat.le_trans hB h.size) hr);unfold zbS at HR;have HI:=aA (Au.isI_ok hr);clear hr hf;generalize Au.sy G x.1=L at *
  go_enter Tryz.func105,Tryz.ntmps105
  go_wp2_with fail
  refine(HR.o _ HS0.o.below).mono ?_;rintro _ w2 ⟨A,c,rfl,hl,hm,hri,hb⟩;have HB:=aA (HS0.o.on hb);have j1:=HB.o.c2 1 _ rfl;clear hb hri g0 g1 g2 g3 i0 i1;by_cases h0:0<=x.2
  ·by_cases h1:x.2<=(L.length:Int)
   ·have HE:=aA (show true=Au.isI G x by rw[HI.o,decide_eq_true h0,decide_eq_true h1];rfl);go_wp2;go_ret
    exact⟨aE HE.o,HB.o.below⟩
   ·have HE:=aA (show false=Au.isI G x by rw[HI.o,decide_eq_true h0,decide_eq_false h1];rfl);have HF:=aA (decide_eq_false h1);go_wp2;go_ret
    exact⟨aE (HF.o.trans HE.o),HB.o.below⟩
  ·have HE:=aA (show false=Au.isI G x by rw[HI.o,decide_eq_false h0];rfl);go_wp2;go_ret
   exact⟨aE HE.o,HB.o.below⟩
theorem zcL (v:Value) (G:Gm.Gr) (B:Nat) (x:Au.It) (w:World) (hg:aT w B v G) (hf:Gm.Fit G) (hB:B<=w.heap.size) :
  Calls Tryz.prog 73 #[v,itV x] w fun e w'=>e=.returned (.tuple #[.int .i64 ((Au.nxP G x).getD 0),.bool (Au.nxP G x).isSome])/\Below w.heap.size w w':=by
 have HG:=aA hg;obtain⟨AT,cT,AN,cN,AR,cR,rfl,_⟩:=hg;have HS0:=aA (bP.start 26 60 w #[.slice AT G.ts.length cT,.slice AN G.ns.length cN,.slice AR G.rs.length cR,.int .i64 G.st] #[.int .i64 x.1,.int .i64 x.2]);have g0:=HS0.o.c1 0 _ rfl;have g1:=HS0.o.c1 1 _ rfl;have g2:=HS0.o.c1 2 _ rfl;have g3:=HS0.o.c1 3 _ rfl;have i0:=HS0.o.c2 0 _ rfl;have i1:=HS0.o.c2 1 _ rfl;cases hr:Au.rOk G x.1
 ·have HR:=aA (fun y (h:Below w.heap.size w y)=>zd2 _ G B x.1 y (HG.o.below h hB) hr);rw[Au.nxP_no hr];clear hr hf
  go_enter Tryz.func73,Tryz.ntmps73
  go_wp2_with fail
  refine(HR.o _ HS0.o.below).mono ?_;rintro _ w2 ⟨rfl,hb⟩;have HB:=aA (HS0.o.on hb);have j1:=HB.o.c2 1 _ rfl;clear hb g0 g1 g2 g3 i0 i1;by_cases h0:x.2<0
  ·go_wp2
   go_ret2
   exact⟨rfl,HB.o.below⟩
  ·have h1:(0:Int)<=x.2:=by omega
   go_wp2
   go_ret2
   exact⟨rfl,HB.o.below⟩
 ·have HR:=aA (fun y (h:Below w.heap.size w y)=>zcK _ G B x.1 y (HG.o.below h hB) hf (Nat.le_trans hB h.size) hr);unfold zbS at HR;have HO:=aA (Au.nxP_out (G:=G) (x:=x));have HI:=aA (Au.nxP_in hr);clear hr hf;generalize Au.nxP G x=q at *;generalize Au.sy G x.1=L at *
  go_enter Tryz.func73,Tryz.ntmps73
  go_wp2_with fail
  refine(HR.o _ HS0.o.below).mono ?_;rintro _ w2 ⟨A,c,rfl,hl,hm,hri,hb⟩;have HB:=aA (HS0.o.on hb);have j1:=HB.o.c2 1 _ rfl;clear hb g0 g1 g2 g3 i0 i1;by_cases h0:x.2<0
  ·obtain rfl:=HO.o (.inl h0);clear HO HI hri;go_wp2
   go_ret2
   exact⟨rfl,HB.o.below⟩
  ·by_cases h1:(L.length:Int)<=x.2
   ·obtain rfl:=HO.o (.inr h1);clear HO HI hri;go_wp2
    go_ret2
    exact⟨rfl,HB.o.below⟩
   ·have HQ:=HI.o (by omega) (by omega);obtain⟨g,o,rfl,hgB,hc⟩:=hri (by omega);obtain⟨k,hk⟩:∃k:Nat,x.2=(k:Int):=⟨x.2.toNat,by omega⟩
    rw[hk]at j1 h0 h1 HQ;have hlt:k<L.length:=by omega
    have k0:=hc k hlt;rw[show((k:Int)).toNat=k by omega]at HQ;generalize L.getD k 0=z at *;have HQ:=aA HQ;clear HO HI hc hk h0 h1;have h0:((k:Int)<0)=False:=eq_false (by omega);go_wp2
    go_ret2
    exact⟨by rw[HQ.o];rfl,HB.o.below⟩
def Au.wlkS (ss:List StT) (q:Int) (sy:List Int):Option Int:=Au.wlk (ss.map (·.2)) q sy
namespace Lk
open Au Gm Go.Mw
theorem zgg {α β:Type}:∀ {K:List α} {E:List β},E.length=K.length->(K.zip E).map (·.2)=E
 | [],[],_=>rfl
 | [],_::_,h=>by cases h
 | _::_,[],h=>by cases h
 | x::K,y::E,h=>by
  rw[List.zip_cons_cons,List.map_cons,zgg (by simpa using h)]
theorem zkR {G:Gr} {K:List (List It)} {E:List (List (Int×Int))} (hi:Inv G K E) (hE:E.length=K.length) {q j:Nat} {s:Int} (he:Ed E q s j):Au.wlkS (K.zip E) (q:Int) [s]=some (j:Int):=by
 have hj:j<E.length:=by
  have:=(List.getElem?_eq_some_iff.1 (hi.to he)).1
  omega
 obtain⟨hq,hm⟩:=he
 have hl:zlA (E.getD q []) s=(j:Int):=by
  rw[List.getD_eq_getElem?_getD,List.getElem?_eq_getElem hq,Option.getD_some];exact zcb (keys_nd hi hq) hm
 unfold wlkS;rw[zgg hE];rw[wlk,if_pos (by omega),wlk,Int.toNat_natCast,hl,if_pos (by omega)]
noncomputable def tow (K:List (List It)) (E:List (List (Int×Int))) (q:Nat) (s:Int):Nat:=((Au.wlkS (K.zip E) (q:Int) [s]).getD 0).toNat
theorem zi9 {G:Gr} {K:List (List It)} {E:List (List (Int×Int))} (hi:Inv G K E) (hE:E.length=K.length) {q j:Nat} {s:Int} (he:Ed E q s j):tow K E q s=j:=by
 unfold tow;rw[zkR hi hE he];simp
end Lk
namespace Lk
open Au Gm Go.Mw
section
variable {G:Gr} {K:List (List It)} {E:List (List (Int×Int))}
noncomputable def rowsL (G:Gr) (K:List (List It)):List (List It):=K.map (clo G)
theorem zdw (G:Gr) (K:List (List It)):(rowsL G K).length=K.length:=List.length_map _
theorem zaP {q:Nat} (hq:q<K.length):(rowsL G K).getD q []=clo G (K.getD q []):=by
 unfold rowsL;rw[List.getD_eq_getElem?_getD,List.getElem?_map,List.getD_eq_getElem?_getD,List.getElem?_eq_getElem hq];rfl
theorem zbZ {q:Nat} {x:It} (h:x∈(rowsL G K).getD q []):q<K.length/\x∈clo G (K.getD q []):=by
 rcases Nat.lt_or_ge q K.length with hq|hq
 ·rw[zaP hq]at h;exact⟨hq,h⟩
 ·rw[List.getD_eq_getElem?_getD,List.getElem?_eq_none (by rw[zdw];exact hq)]at h;cases h
theorem zi8 (hi:Inv G K E) (hE:E.length=K.length) (hok:Ok G) {q:Nat} {x:It} {s:Int} (hx:x∈(rowsL G K).getD q []) (hs:nx G x=some s):Ed E q s (tow K E q s)/\K[tow K E q s]?=some (mv G (clo G (K.getD q [])) s):=by
 obtain⟨hq,hx⟩:=zbZ hx;obtain⟨j,h1,h2⟩:=hi.edge hE hok hq hx hs;rw[zi9 hi hE h1];exact⟨h1,h2⟩
theorem zmN (hi:Inv G K E) (hE:E.length=K.length) (hok:Ok G) {q:Nat} {x:It} {s:Int} (hx:x∈(rowsL G K).getD q []) (hs:nx G x=some s):(x.1,x.2+1)∈(rowsL G K).getD (tow K E q s) []:=by
 have h2:=(zi8 hi hE hok hx hs).2;have hl:=(List.getElem?_eq_some_iff.1 h2).1;rw[zaP hl,zaB (hi.its hl)];refine .of _ ?_;rw[List.getD_eq_getElem?_getD,h2,Option.getD_some];exact zdL.2 ⟨x,(zbZ hx).2,hs,rfl⟩
theorem zmz (hi:Inv G K E) {q:Nat} {x:It} {s:Int} {k:Nat} (hk:k<G.rs.length) (hx:x∈(rowsL G K).getD q []) (hs:nx G x=some s) (h0:s<0) (hl:(G.rs[k]).l = -1-s):((k:Int),(0:Int))∈(rowsL G K).getD q []:=by
 obtain⟨hq,hx⟩:=zbZ hx;rw[zaP hq,zaB (hi.its hq)];exact .on x ((zaB (hi.its hq)).1 hx) s hs h0 k hk hl
structure Done (G:Gr) (K:List (List It)) (E:List (List (Int×Int))) (S:SS):Prop where
 f:Fit (rowsL G K) S
 s:Snd G E (rowsL G K) S
 b:At (rowsL G K) S 0 (-1,0) G.ts.length
 r:∀q i:Nat,ps G (tow K E) (rowsL G K) S (q,i)=S
theorem Done.cls {S:SS} (h:Done G K E S) (hi:Inv G K E) (hE:E.length=K.length) (hok:Ok G):Cls G E (rowsL G K) S :=
 ⟨h.b,fun q i=>zj1 (fun _ _ _ _ _ _ he=>(zi9 hi hE he).symm) (fun _ _ _ hx hs=>zmN hi hE hok hx hs) (fun _ _ _ _ hk hx hs h0 hl=>zmz hi hk hx hs h0 hl) h.f (h.r q i)⟩
theorem zk2 (q:Nat):((rowsL G K).getD q []).Nodup:=by
 rcases Nat.lt_or_ge q K.length with hq|hq
 ·rw[zaP hq];exact zgv (zdc _ _)
 ·rw[List.getD_eq_getElem?_getD,List.getElem?_eq_none (by rw[zdw];exact hq)];exact List.nodup_nil
theorem zlm {α:Type} {l:List α} (h:l.Nodup) {i j:Nat} (hi:i<l.length) (hj:j<l.length) (e:l[i]=l[j]):i=j:=by
 have p:=List.pairwise_iff_getElem.1 (List.nodup_iff_pairwise_ne.1 h);rcases Nat.lt_trichotomy i j with k|k|k
 ·exact absurd e (p i j hi hj k)
 ·exact k
 ·exact absurd e.symm (p j i hj hi k)
theorem Done.la {S:SS} (h:Done G K E S) (hi:Inv G K E) (hE:E.length=K.length) (hok:Ok G) {q i:Nat} {x:It} (hx:((rowsL G K).getD q [])[i]?=some x):(S.getD q []).getD i 0=laN G E q x:=by
 refine Nat.eq_of_testBit_eq fun t=>Bool.eq_iff_iff.2 ?_;rw[zc5 hok,zlB hok h.s (h.cls hi hE hok)]
 constructor
 ·intro k;exact⟨t,rfl,i,hx,k⟩
 ·rintro⟨n,e,j,e1,e2⟩;obtain rfl:t=n:=by omega
  obtain⟨h1,h2⟩:=List.getElem?_eq_some_iff.1 hx;obtain⟨h3,h4⟩:=List.getElem?_eq_some_iff.1 e1
  have:i=j:=zlm (zk2 q) h1 h3 (h2.trans h4.symm)
  rw[this];exact e2
def isC (G:Gr) (x:It):Bool:=(nx G x).isNone&&decide (0<=x.1)
def zdX (G:Gr) (l:List It) (row:List Nat) (n:Nat):List (Int×Int):=(List.range n).filterMap fun i=>if isC G (l.getD i (0,0))=true then some ((l.getD i (0,0)).1,(row.getD i 0:Int)) else none
theorem zf5 (l:List It) (row:List Nat) (n:Nat):zdX G l row (n+1)=zdX G l row n++(if isC G (l.getD n (0,0))=true then [((l.getD n (0,0)).1,(row.getD n 0:Int))] else []):=by
 unfold zdX;rw[List.range_succ,List.filterMap_append]
 congr 1
 split <;> simp_all
theorem zhG (l:List It) (row:List Nat) (f:It->Nat) (h:∀i x,l[i]?=some x->row.getD i 0=f x):zdX G l row l.length=(l.filter (isC G)).map fun x=>(x.1,(f x:Int)):=by
 have key:∀n,n<=l.length->zdX G l row n=((l.take n).filter (isC G)).map fun x=>(x.1,(f x:Int)):=by
  intro n;induction n with
  | zero=>intro _;rfl
  | succ n ih =>
   intro hn;have e:l[n]?=some l[n]:=List.getElem?_eq_getElem (by omega);rw[zf5,ih (by omega),List.take_succ_eq_append_getElem (by omega),List.filter_append,List.map_append,h n _ e]
   congr 1
   rw[List.getD_eq_getElem?_getD,e,Option.getD_some,List.filter_cons];split <;> rfl
 rw[key _ (Nat.le_refl _),List.take_length]
theorem zl5 (p:Nat->Bool) (n:Nat):Srt (((List.range n).filter p).map (en G)):=by
 unfold Srt;rw[List.pairwise_map];refine((za1 n).filter _).imp fun {a b} k=>?_;rw[lt_iff];unfold en;simp only;omega
theorem zlt {S:SS} (h:Done G K E S) (hi:Inv G K E) (hE:E.length=K.length) (hok:Ok G) {q:Nat} (hq:q<K.length):zdX G (clo G (K.getD q [])) (S.getD q []) (clo G (K.getD q [])).length=lkRow G K E q:=by
 rw[zhG _ _ (laN G E q) fun i x hx=>h.la hi hE hok (by rw[zaP hq];exact hx)]
 have e1:lkRow G K E q=(((List.range G.rs.length).filter fun k=>tr (en G k∈clo G (K.getD q []))).map (en G)).map fun x=>(x.1,(laN G E q x:Int)):=by
  unfold lkRow lkAt;rw[List.map_map];generalize List.range G.rs.length=r;induction r with
  | nil=>rfl
  | cons k r ih =>
   rw[List.filterMap_cons,List.filter_cons];by_cases c:tr (en G k∈clo G (K.getD q []))=true
   ·rw[if_pos c,if_pos c];simp only[List.map_cons,Function.comp];rw[ih];rfl
   ·rw[if_neg c,if_neg c];exact ih
 rw[e1]
 congr 1
 refine zcQ ((zdc _ _).filter _) (zl5 _ _) fun z=>?_;rw[List.mem_filter,List.mem_map]
 constructor
 ·rintro⟨hz,hc⟩;unfold isC at hc;rw[Bool.and_eq_true,decide_eq_true_iff,Option.isNone_iff_eq_none]at hc;have hI:=isI_iff.1 (clo_is hz)
  have hn:(sy G z.1).length<=z.2.toNat:=by
   unfold nx at hc;exact List.getElem?_eq_none_iff.1 hc.1
  have he:en G z.1.toNat=z:=by
   unfold en;rw[Int.toNat_of_nonneg hc.2];exact Prod.ext rfl (by simp only;omega)
  refine⟨z.1.toNat,List.mem_filter.2 ⟨List.mem_range.2 (by omega),tr_iff.2 (by rw[he];exact hz)⟩,he⟩
 ·rintro⟨k,hk,rfl⟩;obtain⟨h1,h2⟩:=List.mem_filter.1 hk;refine⟨tr_iff.1 h2,?_⟩;unfold isC;rw[Bool.and_eq_true,decide_eq_true_iff,Option.isNone_iff_eq_none];unfold en nx;refine⟨?_,by simp only;omega⟩;simp only[Int.toNat_natCast];exact List.getElem?_eq_none (Nat.le_refl _)
end
end Lk
end Go.Proofs.YtcmhaemaophplaaGreat
namespace Go.Proofs.YtcmhaemaophplaaGreat
set_option maxRecDepth 100000
set_option maxHeartbeats 40000000
open Go.RowKit Go.ChangeShapes Go.WideShapes Go.ChangeAt
def RdU (w:World) (B:Nat) (A:Option Addr) (zs:List Int):Prop :=
 zs.length≠0->∃g o,A=some ⟨g,o,none⟩/\g<B/\∀j,j<zs.length->w.cell? ⟨g,o+j,none⟩=some (.int .u32 (zs.getD j 0))
theorem RdU.nil (w:World) (B:Nat) (A:Option Addr):RdU w B A []:=fun h=>absurd rfl h
theorem RdU.keep {w w':World} {B:Nat} {A:Option Addr} {zs:List Int} (h:RdU w B A zs) (hk:∀g o,g<B->w'.cell? ⟨g,o,none⟩=w.cell? ⟨g,o,none⟩):RdU w' B A zs:=fun hn=>by
 obtain⟨g,o,e,hg,hc⟩:=h hn;exact⟨g,o,e,hg,fun j hj=>(hk _ _ hg).trans (hc j hj)⟩
theorem RdU.more {w:World} {B B':Nat} {A:Option Addr} {zs:List Int} (h:RdU w B A zs) (hB:B<=B'):RdU w B' A zs:=fun hn=>by
 obtain⟨g,o,e,hg,hc⟩:=h hn;exact⟨g,o,e,by omega,hc⟩
theorem RdU.below {w w':World} {B B':Nat} {A:Option Addr} {zs:List Int} (h:RdU w B A zs) (hb:Below B' w w') (hB:B<=B'):RdU w' B A zs :=
 h.keep fun g o hg=>hb.cell (p:=⟨g,o,none⟩) (Nat.lt_of_lt_of_le hg hB)
theorem RdU.up {w w':World} {A:Option Addr} {zs:List Int} (h:RdU w w.heap.size A zs) (hb:Below w.heap.size w w'):RdU w' w'.heap.size A zs:=(h.below hb (Nat.le_refl _)).more hb.size
theorem RdU.drewN {w:World} {B:Nat} {A:Option Addr} {zs:List Int} (h:RdU w B A zs) (n:Nat):RdU (w.drewN n) B A zs:=h
theorem RdU.drew {w:World} {B:Nat} {A:Option Addr} {zs:List Int} (h:RdU w B A zs):RdU w.drew B A zs:=h
theorem RdU.alloc {w:World} {B:Nat} {A:Option Addr} {zs:List Int} (h:RdU w B A zs) (hB:B<=w.heap.size) (o:Obj):RdU (w.alloc o) B A zs :=
 h.keep fun g i hg=>World.cell?_alloc_lt w o ⟨g,i,none⟩ (Nat.lt_of_lt_of_le hg hB)
theorem RdU.grown {w w':World} {B:Nat} {A:Option Addr} {zs:List Int} {g:Nat} (h:RdU w B A zs) (hg:w.grownBy w' (some g)) (hB:B<=g) (hs:B<=w.heap.size):RdU w' B A zs :=
 h.keep fun p o hp=>World.cell?_of_block (hg.block p (by omega) (fun e=>by injection e with e;omega))
theorem RdU.take {w:World} {B:Nat} {A:Option Addr} {zs:List Int} (h:RdU w B A zs) (k:Nat):RdU w B A (zs.take k):=fun hn=>by
 have hl:(zs.take k).length<=zs.length:=by rw[List.length_take];omega
 obtain⟨g,o,e,hg,hc⟩:=h (by omega);refine⟨g,o,e,hg,fun j hj=>?_⟩;rw[hc j (by omega),L.gd_lt hj,L.gd_lt (by omega:j<zs.length),List.getElem_take]
theorem RdU.cell {w:World} {B:Nat} {zs:List Int} {g o:Nat} (h:RdU w B (some ⟨g,o,none⟩) zs) (j:Nat) (hj:j<zs.length):w.cell? ⟨g,o+j,none⟩=some (.int .u32 (zs.getD j 0)):=by
 obtain⟨g',o',e,_,hc⟩:=h (by omega);injection e with e;injection e with e1 e2;subst e1 e2;exact hc j hj
def UBU (w:World) (g:Nat) (ls:List Int):Prop:=w.heap[g]?=some (.cells (ls.map (Value.int .u32)).toArray 44 (0,0))
theorem UBU.lt {w:World} {g:Nat} {ls:List Int} (h:UBU w g ls):g<w.heap.size:=by
 rcases Nat.lt_or_ge g w.heap.size with hlt|hge
 ·exact hlt
 ·unfold UBU at h;rw[Array.getElem?_eq_none hge]at h;cases h
theorem UBU.cell {w:World} {g:Nat} {ls:List Int} (h:UBU w g ls) (i:Nat) (hi:i<ls.length):w.cell? ⟨g,i,none⟩=some (.int .u32 (ls.getD i 0)):=by
 rw[cell_of_row w g i _ _ _ h];simp[hi,List.getD]
theorem UBU.frozen {w:World} {g:Nat} {ls:List Int} (h:UBU w g ls) (i:Nat):w.frozen? ⟨g,i,none⟩=false:=frozen_of_row w g i _ _ h
theorem UBU.drewN {w:World} {g:Nat} {ls:List Int} (h:UBU w g ls) (n:Nat):UBU (w.drewN n) g ls:=h
theorem UBU.drew {w:World} {g:Nat} {ls:List Int} (h:UBU w g ls):UBU w.drew g ls:=h
theorem UBU.alloc {w:World} {g:Nat} {ls:List Int} (h:UBU w g ls) (o:Obj):UBU (w.alloc o) g ls:=(Below.heap_alloc w o g h.lt).trans h
theorem UBU.set_ {w:World} {g:Nat} {ls:List Int} (h:UBU w g ls) (i:Nat) (z:Int):UBU (w.setCell ⟨g,i,none⟩ (.int .u32 z)) g (ls.set i z):=by
 unfold UBU at h ⊢;rw[heap_setCell_same w g i _ _ _ h]
 congr 2
 apply Array.ext';simp[List.map_set]
theorem UBU.far {w:World} {g:Nat} {ls:List Int} (h:UBU w g ls) {p:Addr} (hp:g≠p.block) (u:Value):UBU (w.setCell p u) g ls:=(Below.heap_setCell w p u g hp).trans h
theorem UBU.below {w w':World} {g B:Nat} {ls:List Int} (h:UBU w g ls) (hb:Below B w w') (hg:g<B):UBU w' g ls:=(hb.block g hg).trans h
theorem UBU.grown {w w':World} {g:Nat} {ls:List Int} {row:Option Nat} (h:UBU w g ls) (hb:w.grownBy w' row) (hg:some g≠row):UBU w' g ls:=(hb.block g h.lt hg).trans h
theorem UBU.mid {w:World} {g o:Nat} {pre xs post:List Int} (h:UBU w g (pre++xs++post)) (ho:o=pre.length) (k:Nat) (hk:k<xs.length):w.cell? ⟨g,o+k,none⟩=some (.int .u32 (xs.getD k 0)):=by
 rw[h.cell (o+k) (by simp;omega),ho,L.mid_getD pre xs post k hk]
theorem UBU.rd {w:World} {g:Nat} {ls:List Int} (h:UBU w g ls) (o n:Nat) (hn:o+n<=ls.length) {B:Nat} (hB:g<B):RdU w B (some ⟨g,o,none⟩) ((ls.drop o).take n):=fun _=>by
 refine⟨g,o,rfl,hB,fun j hj=>?_⟩;have hj':j<n:=by rw[List.length_take]at hj;omega
 rw[h.cell (o+j) (by omega),L.gd_lt hj,L.gd_lt (by omega:o+j<ls.length),List.getElem_take,List.getElem_drop]
theorem UBU.rd0 {w:World} {g:Nat} {ls:List Int} (h:UBU w g ls) {B:Nat} (hB:g<B):RdU w B (some ⟨g,0,none⟩) ls:=by
 have:=h.rd 0 ls.length (by omega) hB;simpa using this
theorem zlK:(Tryz.prog.info? 44).map (fun i=>(i.zero,i.size,i.bytes))=some (some (.int .u32 0),1,4):=by kernel_rfl
theorem za9 (n:Nat):(List.replicate n (0:Int)).map (Value.int .u32)=List.replicate n (.int .u32 0):=by simp
theorem zbT {w:World} {base g n:Nat} {ls:List Int} (h:w.ownsRow base 44 1 (.slice (some ⟨g,0,none⟩) n n) n (ls.map (Value.int .u32))):UBU w g ls:=by
 rcases h.2 with⟨he,_⟩|⟨g',cap,cur,he,hb,hg,hn,hm,hs,ht⟩
 ·cases he
 ·injection he with e1 e2 e3;injection e1 with e1;injection e1 with e1;subst e1 e3;unfold UBU;rw[hg,<-ht,List.take_of_length_le (by simp[hs])]
theorem zg5 {w:World} {ops:Array Oper} {rest:List Oper} {o:Oper} {a:Act} {Q:Exit->Act->World->Prop}
  (hg:o.guard=none) (l c:Operand) (t:TypeId) (hop:o.op=Op.makeSlice t l c) (ht:Tryz.prog.underlying t=some (.slice 44)) (n:Nat) (L C:Int) (hl:a.eval l=.int .i64 L) (hc:a.eval c=.int .i64 C) (hL:L=(n:Int)) (hC:C=(n:Int)) (hn:n<=35184372088832)
  (hK:∀w',UBU w' w.heap.size (List.replicate n 0)->Below w.heap.size w w'->w.heap.size<w'.heap.size->wpList Tryz.prog ops Q rest (a.put o.dst (.slice (some ⟨w.heap.size,0,none⟩) n n)) w') :
  wpList Tryz.prog ops Q (o::rest) a w:=by
 obtain⟨i,hi,hz0,hz1,hz2⟩:=info_parts zlK;refine wpList_make_full w hg l c t hop w.heap.size 44 i (.int .u32 0) 1 ht hi hz0 hz1 .i64 .i64 L C n hl hc hL hC (by rw[hz2];omega) (by unfold maxLen;omega) (Nat.le_refl _) fun w' hown hgr=>?_
 have hub:UBU w' w.heap.size (List.replicate n 0):=by
  refine zbT (base:=w.heap.size) (n:=n) ?_;rw[za9]
  have e:(madeCells (Value.int IntKind.u32 0).cells (n*1)).toList=List.replicate n (Value.int .u32 0):=by
   rw[Nat.mul_one];exact toList_madeCells_one _ _
  rw[e]at hown;exact hown
 exact hK w' hub ⟨hgr.os,hgr.tape,hgr.output,hgr.size,fun k hk=>hgr.block k hk (by simp)⟩ hub.lt
end Go.Proofs.YtcmhaemaophplaaGreat
namespace Go.Proofs.YtcmhaemaophplaaGreat
set_option maxRecDepth 100000
set_option maxHeartbeats 40000000
open Go.RowKit
namespace S
def bit (n:Int):Nat:=if 0<=n/\n<=31 then 2 ^ n.toNat else 0
def of (l:List Int):Nat:=l.foldl (fun s n=>s ||| bit n) 0
theorem bit_lt (n:Int):bit n<4294967296:=by
 unfold bit;split
 ·have:2 ^ n.toNat<=2 ^ 31:=Nat.pow_le_pow_right (by decide) (by omega)
  omega
 ·omega
theorem bit_nat {k:Nat} (h:k<=31):bit k=2 ^ k:=by unfold bit;rw[if_pos (by omega)];simp
theorem bit_neg {n:Int} (h:n<0):bit n=0:=by unfold bit;rw[if_neg (by omega)]
theorem bit_big {n:Int} (h:31<n):bit n=0:=by unfold bit;rw[if_neg (by omega)]
theorem zmL {a b:Nat} (ha:a<4294967296) (hb:b<4294967296):a ||| b<4294967296:=by
 have:=Nat.or_lt_two_pow (n:=32) (x:=a) (y:=b) (by omega) (by omega);omega
theorem of_snoc (l:List Int) (n:Int):of (l++[n])=of l ||| bit n:=by unfold of;rw[List.foldl_append];rfl
theorem of_lt (l:List Int):of l<4294967296:=by
 unfold of
 suffices ∀(l:List Int) (a:Nat),a<4294967296->l.foldl (fun s n=>s ||| bit n) a<4294967296 from this l 0 (by omega)
 intro l;induction l with
 | nil=>intro a h;exact h
 | cons n r ih=>intro a h;exact ih _ (zmL h (bit_lt n))
theorem of_one (n:Int):of [n]=bit n:=by unfold of;simp
end S
theorem zgT (n:Int) (h:0<=n):(2:Int) ^ (min n.toNat 32) % 4294967296=(S.bit n:Int):=by
 by_cases hb:n<=31
 ·obtain⟨k,rfl⟩:=Int.eq_ofNat_of_zero_le h;rw[S.bit_nat (by omega),show min (k:Int).toNat 32=k by omega];have hp:2 ^ k<=2 ^ 31:=Nat.pow_le_pow_right (by decide) (by omega);have e:(2:Int) ^ k=((2 ^ k:Nat):Int):=by simp
  rw[e];generalize 2 ^ k=a at *;omega
 ·rw[S.bit_big (by omega),show min n.toNat 32=32 by omega];decide
theorem zgw (n:Int) (w:World) :
  Calls Tryz.prog 197 #[.int .i64 n] w fun e w'=>e=.returned (.int .u32 (S.bit n))/\w'=w:=by
 go_enter Tryz.func197,Tryz.ntmps197
 by_cases h:n<0
 ·have e:=aA (S.bit_neg h);go_wp2;go_ret
  rw[e.o];exact⟨rfl,rfl⟩
 ·have h':0<=n:=by omega
  have e:=aA (zgT n h');go_wp2;go_ret
  exact⟨aS e.o,rfl⟩
theorem zjT (A:Option Addr) (c B:Nat) (l:List Int) (w:World) (hr:RdI w B A l) (hn:l.length<=9223372036854775807) :
  Calls Tryz.prog 190 #[.slice A l.length c] w fun e w'=>e=.returned (.int .u32 (S.of l))/\∃n,w'=w.drewN n:=by
 go_enter Tryz.func190,Tryz.ntmps190
 go_wp2;go_loopw [8,3] (fun vi vs wr=>∃(k:Nat) (n:Nat),k<=l.length/\vi=.int .i64 k/\vs=.int .u32 (S.of (l.take k))/\wr=w.drewN n) (fun vi _ _=>l.length-(intOf vi).toNat)
 case atStart=>exact⟨0,0,by omega,rfl,rfl,rfl⟩
 case round =>
  obtain⟨k,n,hk,rfl,rfl,rfl⟩:=hrel;by_cases hlt:k<l.length
  ·obtain⟨g,o,rfl,_,hc⟩:=hr (by omega);have hcell:=hc k hlt;have hst:=aA (show S.of (l.take k) ||| S.bit (l.getD k 0)=S.of (l.take (k+1)) by rw[L.take_snoc l k hlt,S.of_snoc]);have e:=aA (u32_or_nat (S.of (l.take k)) (S.bit (l.getD k 0)) (S.of_lt _) (S.bit_lt _));generalize l.getD k 0=z at *;clear hc;go_wp2_with fail
   refine(zgw _ _).mono ?_;rintro _ _ ⟨rfl,rfl⟩;go_wp2_with (rw[e.o,hst.o])
   go_roundw
   case rel=>exact⟨k+1,_,by omega,by go_num,rfl,rfl⟩
   case measure=>simp[intOf];omega
  ·obtain rfl:k=l.length:=by omega
   rw[List.take_length];go_wp2;go_ret
   exact⟨rfl,_,rfl⟩
theorem zim {k:Nat} (hk:k<31):(2:Int)*((2 ^ k:Nat):Int)=((2 ^ (k+1):Nat):Int)/\((2 ^ k:Nat):Int)<=1073741824:=by
 have hp:2 ^ k<=2 ^ 30:=Nat.pow_le_pow_right (by decide) (by omega);rw[Nat.pow_succ];generalize 2 ^ k=a at *;omega
theorem zeR (n:Int) (w:World) (hn:n<=9223372036854775807) :
  Calls Tryz.prog 28 #[.int .i64 n] w fun e w'=>e=.returned (.int .u32 (S.bit n))/\∃q,w'=w.drewN q:=by
 by_cases h1:n<0
 ·have e:=aA (S.bit_neg h1)
  go_enter Tryz.func28,Tryz.ntmps28
  go_wp2;go_ret
  rw[e.o];exact⟨rfl,0,rfl⟩
 ·by_cases h2:31<n
  ·have e:=aA (S.bit_big h2)
   go_enter Tryz.func28,Tryz.ntmps28
   go_wp2;go_ret
   rw[e.o];exact⟨rfl,0,rfl⟩
  ·have h3:0<=n:=by omega
   have h4:n<=31:=by omega
   obtain⟨m,rfl⟩:=Int.eq_ofNat_of_zero_le h3;have hm:m<=31:=by omega
   have e:=aA (S.bit_nat hm);clear hn
   go_enter Tryz.func28,Tryz.ntmps28
   go_wp2
   go_loop [4,3] (fun vi vx=>∃k:Nat,k<=m/\vi=.int .i64 k/\vx=.int .u32 ((2 ^ k:Nat):Int)) (fun vi _=>m-(intOf vi).toNat)
   case atStart=>exact⟨0,by omega,rfl,rfl⟩
   case round =>
    obtain⟨k,hk,rfl,rfl⟩:=hrel;by_cases hlt:k<m
    ·have hp:=zim (k:=k) (by omega);have HP:=aA hp.1;have hq:=hp.2;have hq0:(0:Int)<=((2 ^ k:Nat):Int):=Int.natCast_nonneg _;clear hp;generalize ((2 ^ k:Nat):Int)=a at *;go_wp2
     go_round
     case rel=>exact⟨k+1,by omega,by go_num,by rw[<-HP.o];go_num⟩
     case measure=>simp[intOf];omega
    ·obtain rfl:k=m:=by omega
     go_wp2;go_ret
     rw[e.o];exact⟨rfl,0,rfl⟩
end Go.Proofs.YtcmhaemaophplaaGreat
namespace Go.Proofs.YtcmhaemaophplaaGreat
set_option maxRecDepth 100000
set_option maxHeartbeats 40000000
open Go.RowKit Go.ChangeShapes Go.WideShapes Go.ChangeAt
section
variable {α:Type} {m:Nat} {f:α->List Value} {T:TypeId}
theorem zjB {w:World} {o:Oper} {a:Act} {Q:Exit->Act->World->Prop} {K:Act->World->Prop}
  (s x:Operand) (t:TypeId) (ho:o.op=.call {callee:=.builtin .append,args:=#[s,x],argTypes:=#[t,t]}) (ht:Tryz.prog.underlying t=some (.slice T))
  (z:Value) (bytes:Nat) (hinfo:(Tryz.prog.info? T).map (fun i=>(i.zero,i.size,i.bytes))=some (some z,m,bytes)) (hzs:z.cells.size=m) (hm:0<m) (hby:bytes<=100) (hf:∀x,(f x).length=m) (h1:∀x,∀u∈f x,u.oneCell'=true)
  (base:Nat) (v:Value) (xs:List α) (hs:a.eval s=v) (hown:aQ T m f w base v xs) (g c:Nat) (y:α) (hx:a.eval x=.slice (some ⟨g,0,none⟩) 1 c) (hz:∀j u,(f y)[j]?=some u->w.cell? ⟨g,j,none⟩=some u)
  (hlen:xs.length<=1000000) (hbase:base<=w.heap.size)
  (hK:∀v' w',aQ T m f w' base v' (xs++[y])->w.grownBy w' v.ownBlock->K (a.put o.dst v') w') :
  o.wp Tryz.prog a w K Q:=by
 obtain⟨i,hi,hz0,hz1,hz2⟩:=info_parts hinfo;refine wp_append_own w s x t ho base T i z m bytes ht hi hz0 hz1 hz2 hzs hm v xs.length (xs.flatMap f) hs hown ⟨g,0,none⟩ 1 c (f y) hx (by rw[hf,Nat.one_mul]) ?_ (h1 y) (by unfold maxLen;omega) (by have:=Nat.mul_le_mul (show xs.length+1<=1000001 by omega) hby;omega) hbase fun v' w' h2 h3 _=>hK v' w' ?_ h3
 ·intro j u hj;rw[Go.WideShapes.add_plain,Nat.zero_add];exact hz j u hj
 ·unfold aQ;rw[List.length_append,List.flatMap_append,List.flatMap_singleton];exact h2
theorem zd1 {w:World} {ops:Array Oper} {rest:List Oper} {o:Oper} {a:Act} {Q:Exit->Act->World->Prop}
  (hgd:o.guard=none) (s x:Operand) (t:TypeId) (ho:o.op=.call {callee:=.builtin .append,args:=#[s,x],argTypes:=#[t,t]}) (ht:Tryz.prog.underlying t=some (.slice T))
  (z:Value) (bytes:Nat) (hinfo:(Tryz.prog.info? T).map (fun i=>(i.zero,i.size,i.bytes))=some (some z,m,bytes)) (hzs:z.cells.size=m) (hm:0<m) (hby:bytes<=100) (hf:∀x,(f x).length=m) (h1:∀x,∀u∈f x,u.oneCell'=true)
  (base:Nat) (v:Value) (xs:List α) (hs:a.eval s=v) (hown:aQ T m f w base v xs) (g c:Nat) (y:α) (hx:a.eval x=.slice (some ⟨g,0,none⟩) 1 c) (hz:∀j u,(f y)[j]?=some u->w.cell? ⟨g,j,none⟩=some u)
  (hlen:xs.length<=1000000) (hbase:base<=w.heap.size)
  (hK:∀v' w',aQ T m f w' base v' (xs++[y])->w.grownBy w' v.ownBlock->(v'.ownBlock=v.ownBlock\/v'.ownBlock=some w.heap.size)->wpList Tryz.prog ops Q rest (a.put o.dst v') w') :
  wpList Tryz.prog ops Q (o::rest) a w:=by
 obtain⟨i,hi,hz0,hz1,hz2⟩:=info_parts hinfo;refine wpList_append_own_at w hgd s x t ho base T i z m bytes ht hi hz0 hz1 hz2 hzs hm v xs.length (xs.flatMap f) hs hown ⟨g,0,none⟩ 1 c (f y) hx (by rw[hf,Nat.one_mul]) ?_ (h1 y) (by unfold maxLen;omega) (by have:=Nat.mul_le_mul (show xs.length+1<=1000001 by omega) hby;omega) hbase fun v' w' h2 h3 _ h5=>hK v' w' ?_ h3 h5
 ·intro j u hj;rw[Go.WideShapes.add_plain,Nat.zero_add];exact hz j u hj
 ·unfold aQ;rw[List.length_append,List.flatMap_append,List.flatMap_singleton];exact h2
end
end Go.Proofs.YtcmhaemaophplaaGreat
namespace Go.Proofs.YtcmhaemaophplaaGreat
set_option maxRecDepth 100000
set_option maxHeartbeats 40000000
open Go.RowKit
theorem zkn:(match Tryz.prog.underlying 60 with|some (.array _ _)|some (.struct _)=>true|_=>false)=true:=by rw[Tryz.underlying60]
theorem itK:Maps.Keyed Tryz.prog 60:=Maps.Keyed.of_law (deep_law (m:=2) (by omega) (by kernel_rfl) (by kernel_rfl) zkn)
theorem zlG (x:Au.It) (h:Gm.In x.1/\Gm.In x.2):∃l,keyOf Tryz.prog 60 (itV x)=some l:=by
 have h1:(Lit.int .i64 x.1).wf=true:=WalkArith.wf_i64 (by unfold Gm.In at h;omega);have h2:(Lit.int .i64 x.2).wf=true:=WalkArith.wf_i64 (by unfold Gm.In at h;omega);have hk:Tryz.prog.keyType 60=true:=by kernel_rfl
 have hc:Tryz.prog.cellsOf 60=2:=by kernel_rfl
 have hci:Tryz.prog.cellsOf 3=1:=by kernel_rfl
 unfold keyOf;rw[Tryz.underlying60];have hfm:(itV x).formed Tryz.prog 60=true:=by simp[Value.formed,Tryz.underlying60,hc]
 have hl:∃ls,Tryz.prog.keyLits (Tryz.prog.types.size+1) 60 (itV x).cells.toList=some ls:=by
  obtain⟨n,hn⟩:∃n,Tryz.prog.types.size=n+1:=⟨Tryz.prog.types.size-1,by have:0<Tryz.prog.types.size:=of_decide_eq_true (by kernel_rfl);omega⟩
  rw[hn];simp[Program.keyLits,Tryz.underlying60,Tryz.underlying3,hc,hci,Value.cells,h1,h2]
 obtain⟨ls,hls⟩:=hl;simp only[hk,hfm,hls];exact⟨_,rfl⟩
def itE:Mw.Enc Tryz.prog 60 Au.It where
 enc x:=itV x
 ok x:=Gm.In x.1/\Gm.In x.2
 key x h:=zlG x h
 inj x y _ _ h:=by
  injection h with h;simp at h;exact Prod.ext h.1 h.2
theorem zjm:(Tryz.prog.info? 60).map (fun i=>(i.zero,i.size,i.bytes))=some (some (.agg #[.int .i64 0,.int .i64 0]),2,16):=by kernel_rfl
theorem zdF (x:Int×Int):∀u∈prF x,u.oneCell'=true:=fun u hu=>by
 simp[prF]at hu;rcases hu with rfl|rfl <;> rfl
section
variable {α:Type} {m:Nat} {f:α->List Value}
def RdM (m:Nat) (f:α->List Value) (w:World) (B:Nat) (A:Option Addr) (rows:List (List α)):Prop :=
 rows.length≠0->∃g o,A=some ⟨g,o,none⟩/\g<B/\∀i (h:i<rows.length),∃A' c',w.cell? ⟨g,o+i,none⟩=some (.slice A' rows[i].length c')/\rows[i].length<=c'/\c'<=9223372036854775807/\RdQ m f w B A' rows[i]
theorem RdM.nil (w:World) (B:Nat) (A:Option Addr):RdM m f w B A []:=fun h=>absurd rfl h
theorem RdM.keep {w w':World} {B:Nat} {A:Option Addr} {rows:List (List α)} (h:RdM m f w B A rows) (hk:∀g o,g<B->w'.cell? ⟨g,o,none⟩=w.cell? ⟨g,o,none⟩):RdM m f w' B A rows:=fun hn=>by
 obtain⟨g,o,e,hg,hc⟩:=h hn;refine⟨g,o,e,hg,fun i hi=>?_⟩;obtain⟨A1,c1,h1,h2,h3,h4⟩:=hc i hi;exact⟨A1,c1,(hk _ _ hg).trans h1,h2,h3,h4.keep hk⟩
theorem RdM.below {w w':World} {B B':Nat} {A:Option Addr} {rows:List (List α)} (h:RdM m f w B A rows) (hb:Below B' w w') (hB:B<=B'):RdM m f w' B A rows :=
 h.keep fun g o hg=>hb.cell (p:=⟨g,o,none⟩) (Nat.lt_of_lt_of_le hg hB)
theorem RdM.more {w:World} {B B':Nat} {A:Option Addr} {rows:List (List α)} (h:RdM m f w B A rows) (hB:B<=B'):RdM m f w B' A rows:=fun hn=>by
 obtain⟨g,o,e,hg,hc⟩:=h hn;refine⟨g,o,e,by omega,fun i hi=>?_⟩;obtain⟨A1,c1,h1,h2,h3,h4⟩:=hc i hi;exact⟨A1,c1,h1,h2,h3,h4.more hB⟩
def zd3 (T:TypeId) (m:Nat) (f:α->List Value) (w:World) (base N:Nat) (A:Option Addr) (xs:List α):Prop :=
 xs.length≠0->∃(g:Nat) (cur:Array Value),A=some ⟨g,0,none⟩/\base<=g/\g<N/\w.heap[g]?=some (.cells cur T (0,0))/\∀i (h:i<xs.length) j u,(f xs[i])[j]?=some u->cur[i*m+j]?=some u
section
variable {T:TypeId} {w w':World} {base base' N N':Nat} {A:Option Addr} {xs:List α}
theorem zd3.nil (T:TypeId) (w:World) (base N:Nat) (A:Option Addr):zd3 T m f w base N A []:=fun h=>absurd rfl h
theorem zd3.keep (h:zd3 T m f w base N A xs) (hk:∀g cur,base<=g->g<N->w.heap[g]?=some (.cells cur T (0,0))->w'.heap[g]?=some (.cells cur T (0,0))):zd3 T m f w' base N A xs:=fun hn=>by
 obtain⟨g,cur,e,hb,hN,hh,hc⟩:=h hn;exact⟨g,cur,e,hb,hN,hk g cur hb hN hh,hc⟩
theorem zd3.more (h:zd3 T m f w base N A xs) (hN:N<=N'):zd3 T m f w base N' A xs:=fun hn=>by
 obtain⟨g,cur,e,hb,h1,hh⟩:=h hn;exact⟨g,cur,e,hb,by omega,hh⟩
theorem zd3.less (h:zd3 T m f w base N A xs) (hb:base'<=base):zd3 T m f w base' N A xs:=fun hn=>by
 obtain⟨g,cur,e,h1,hN,hh⟩:=h hn;exact⟨g,cur,e,by omega,hN,hh⟩
theorem zd3.rd (h:zd3 T m f w base N A xs):RdQ m f w N A xs:=fun hn=>by
 obtain⟨g,cur,e,hb,hN,hh,hc⟩:=h hn;refine⟨g,0,e,hN,fun i hi j u hu=>?_⟩;rw[cell_of_row w g _ _ _ _ hh,Nat.zero_add];exact hc i hi j u hu
theorem UBQ.rowG {g:Nat} (h:UBQ T f w g xs) (hf:∀x,(f x).length=m) (hb:base<=g) (hN:g<N):zd3 T m f w base N (some ⟨g,0,none⟩) xs:=fun _=>by
 refine⟨g,_,rfl,hb,hN,h,fun i hi j u hu=>?_⟩;have hj:j<m:=by rw[<-hf xs[i]];exact(List.getElem?_eq_some_iff.1 hu).1
 rw[List.getElem?_toArray,qat hf xs i j hi hj];exact hu
theorem aQ.rowG {n c:Nat} (h:aQ T m f w base (.slice A n c) xs) (hf:∀x,(f x).length=m):zd3 T m f w base w.heap.size A xs:=fun hn=>by
 rcases h.2 with⟨e,h0⟩|⟨g,cap,cur,e,hb,hg,h1,hm,hs,ht⟩
 ·exact absurd h0 hn
 ·injection e with e1 e2 e3;refine⟨g,cur,e1,hb,(Array.getElem?_eq_some_iff.1 hg).1,hg,fun i hi j u hu=>?_⟩;have hj:j<m:=by rw[<-hf xs[i]];exact(List.getElem?_eq_some_iff.1 hu).1
  have h2:(cur.toList.take (xs.length*m))[i*m+j]?=(xs.flatMap f)[i*m+j]?:=by rw[ht]
  have hlt:i*m+j<xs.length*m:=by
   have:=Nat.mul_le_mul_right m (show i+1<=xs.length by omega)
   rw[Nat.add_mul,Nat.one_mul]at this;omega
  rw[List.getElem?_take_of_lt hlt,Array.getElem?_toList,qat hf xs i j hi hj]at h2;rw[h2];exact hu
end
abbrev RW (α:Type):=List α×Option Addr×Nat
def rwF (r:RW α):List Value:=[.slice r.2.1 r.1.length r.2.2]
theorem zcR (r:RW α):(rwF r).length=1:=rfl
def bR (T:TypeId) (m:Nat) (f:α->List Value) (w:World) (base N:Nat) (r:RW α):Prop:=r.1.length<=r.2.2/\r.2.2<=9223372036854775807/\zd3 T m f w base N r.2.1 r.1
theorem bR.nil (T:TypeId) (w:World) (base N:Nat):bR T m f w base N (([],none,0):RW α):=⟨Nat.le_refl _,by simp,zd3.nil _ _ _ _ _⟩
theorem bR.keep {T:TypeId} {w w':World} {base N:Nat} {r:RW α} (h:bR T m f w base N r) (hk:∀g cur,base<=g->g<N->w.heap[g]?=some (.cells cur T (0,0))->w'.heap[g]?=some (.cells cur T (0,0))):bR T m f w' base N r:=⟨h.1,h.2.1,h.2.2.keep hk⟩
theorem bR.below {T:TypeId} {w w':World} {base N B:Nat} {r:RW α} (h:bR T m f w base N r) (hb:Below B w w') (hN:N<=B):bR T m f w' base N r:=h.keep fun g _ _ hg hc=>(hb.block g (Nat.lt_of_lt_of_le hg hN)).trans hc
theorem bR.more {T:TypeId} {w:World} {base N N':Nat} {r:RW α} (h:bR T m f w base N r) (hN:N<=N'):bR T m f w base N' r:=⟨h.1,h.2.1,h.2.2.more hN⟩
theorem bR.less {T:TypeId} {w:World} {base base' N:Nat} {r:RW α} (h:bR T m f w base N r) (hb:base'<=base):bR T m f w base' N r:=⟨h.1,h.2.1,h.2.2.less hb⟩
theorem RdM.of {T:TypeId} {w:World} {base B g:Nat} {rs:List (RW α)} (hB:g<B) (hc:∀i (h:i<rs.length),w.cell? ⟨g,i,none⟩=some (.slice rs[i].2.1 rs[i].1.length rs[i].2.2)) (hr:∀r∈rs,bR T m f w base B r):RdM m f w B (some ⟨g,0,none⟩) (rs.map (·.1)):=fun _=>by
 refine⟨g,0,rfl,hB,fun i hi=>?_⟩;have hi2:i<rs.length:=by simpa using hi
 obtain⟨h1,h2,h3⟩:=hr _ (List.getElem_mem hi2);rw[List.getElem_map];exact⟨rs[i].2.1,rs[i].2.2,by rw[Nat.zero_add];exact hc i hi2,h1,h2,h3.rd⟩
theorem UBQ.rdM {T T2:TypeId} {w:World} {g base B:Nat} {rs:List (RW α)} (h:UBQ T rwF w g rs) (hB:g<B) (hr:∀r∈rs,bR T2 m f w base B r):RdM m f w B (some ⟨g,0,none⟩) (rs.map (·.1)) :=
 RdM.of hB (fun i hi=>by have:=h.cell zcR i 0 hi _ rfl;rw[Nat.mul_one,Nat.add_zero]at this;exact this) hr
theorem zmy (xs:List (RW α)) (i:Nat) (y:RW α):(xs.flatMap rwF).set i (.slice y.2.1 y.1.length y.2.2)=(xs.set i y).flatMap rwF:=by
 induction xs generalizing i with
 | nil=>simp
 | cons x r ih =>
  cases i with
  | zero=>rfl
  | succ i =>
   show _::(r.flatMap rwF).set i _=_::(r.set i y).flatMap rwF
   rw[ih i]
theorem UBQ.set1 {T:TypeId} {w:World} {g:Nat} {xs:List (RW α)} (h:UBQ T rwF w g xs) (i:Nat) (y:RW α) (A:Option Addr) (n c:Nat) (h1:y.2.1=A) (h2:y.1.length=n) (h3:y.2.2=c):UBQ T rwF (w.setCell ⟨g,i,none⟩ (.slice A n c)) g (xs.set i y):=by
 subst h1 h2 h3;unfold UBQ at h ⊢;rw[heap_setCell_same _ g _ _ _ _ h]
 congr 2
 apply Array.ext';rw[<-zmy xs i y];simp
end
end Go.Proofs.YtcmhaemaophplaaGreat
namespace Go.Mw
open Go.RowKit Go.Maps
section
variable {P:Program} {kt:TypeId} {κ:Type} {E:Enc P kt κ} {w:World} {b:Nat} {l:List (κ×Value)}
def MapU (E:Enc P kt κ) (w:World) (b:Nat) (l:List (κ×Value)):Prop :=
 ∃es clock,w.heap[b]?=some (.map es clock)/\es.toList.map (fun e=>(e.key,e.val))=l.map (fun p=>(E.enc p.1,p.2))/\(∀p∈l,E.ok p.1)/\(l.map Prod.fst).Nodup/\(∀e∈es.toList,e.born<clock)/\(es.toList.map (·.born)).Nodup
theorem MapU.is (h:MapU E w b l):MapIs E w b l:=by
 obtain⟨es,clock,h1,h2,h3,h4,_⟩:=h;exact⟨es,clock,h1,h2,h3,h4⟩
theorem MapU.lt (h:MapU E w b l):b<w.heap.size:=h.is.lt
theorem MapU.block {w':World} (h:MapU E w b l) (hg:w'.heap[b]?=w.heap[b]?):MapU E w' b l:=by
 obtain⟨es,clock,hb,r⟩:=h;exact⟨es,clock,hg.trans hb,r⟩
variable [DecidableEq κ]
def zmo (E:Enc P kt κ) (t:TypeId) (w:World) (b:Nat) (l:List (κ×Value)) (x:κ) (c:Value):Prop :=
 b<w.heap.size/\∀w2:World,w2.heap[b]?=w.heap[b]?->∀v:Value,∃w3,(Instr.entryStore t (.map (some b)) c v).run P w2=.ok () w3/\MapU E w3 b (putA l x v)/\w2.grownBy w3 (some b)
theorem zkt {es:List MapEntry} {e:MapEntry} {j:Nat} (hn:(es.map (·.born)).Nodup) (h:es[j]?=some e):es.findIdx? (fun x=>(x.born:Int)==(e.born:Int))=some j:=by
 induction es generalizing j with
 | nil=>simp at h
 | cons y r ih =>
  rw[List.map_cons,List.nodup_cons]at hn;rw[List.findIdx?_cons];cases j with
  | zero =>
   simp only[List.getElem?_cons_zero,Option.some.injEq]at h;subst h;simp
  | succ j =>
   rw[List.getElem?_cons_succ]at h
   have hne:((y.born:Int)==(e.born:Int))=false:=by
    rw[beq_eq_false_iff_ne];intro q;have q:y.born=e.born:=by omega
    exact hn.1 (List.mem_map.2 ⟨e,List.mem_of_getElem? h,q.symm⟩)
   rw[hne,ih hn.2 h];simp
theorem zdD {x:κ} {α:Type} {v:α}:∀ {l:List (κ×α)},asc l x=some v->putA l x v=l
 | (k,u)::r,h=>by
  unfold asc at h;unfold putA;by_cases e:k=x
  ·rw[if_pos e]at h ⊢;injection h with h;rw[h]
  ·rw[if_neg e]at h ⊢;rw[zdD h]
theorem run_met {t e:TypeId} (h:MapU E w b l) (K:Keyed P kt) (ht:P.underlying t=some (.map kt e)) {z:Value} (hz:(zeroValue e).run P w=.ok z w) {x:κ} (hx:E.ok x) :
  ∃(u c:Value) (w':World),(Instr.mapEntry t (.map (some b)) (E.enc x)).run P w=.ok (.tuple #[u,c]) w'/\zmo E t w' b l x c/\MapIs E w' b (putA l x ((asc l x).getD z))/\w.grownBy w' (some b):=by
 obtain⟨lx,hlx⟩:=E.key x hx;have h0:=h;obtain⟨es,clock,hb,he,hf⟩:=find_in h.is K hx;obtain⟨es0,clock0,hb0,he0,hk,hnd,hst,hbn⟩:=h0;rw[hb]at hb0;injection hb0 with hb0;injection hb0 with hb0 hb1;subst hb0 hb1;have hbl:b<w.heap.size:=(Array.getElem?_eq_some_iff.1 hb).1;rcases hf with⟨h1,h2⟩|⟨j,e0,h1,h2,h3,h4,h5⟩
 ·refine⟨z,goInt clock,ChangeMaps.setBlock w b (.map (es.push ⟨E.enc x,z,clock⟩) (clock+1)),?_,⟨by simpa[ChangeMaps.setBlock] using hbl,fun w2 hw2 v=>?_⟩,?_,⟨rfl,rfl,rfl,by simp[ChangeMaps.setBlock],fun i _ hi=>ChangeMaps.heap_setBlock_other hb _ (fun e=>hi (by rw[e]))⟩⟩
  ·simp[Instr.mapEntry,run_underlying ht,MapKept.run_getObj_map hb,K.check w false hlx,h1,hz,MapKept.run_setObj_map _ hb,Result.andThen,ChangeMaps.setBlock]
  ·rw[ChangeMaps.heap_setBlock_same hb]at hw2
   have hfi:(es.push ⟨E.enc x,z,clock⟩).findIdx? (fun e=>(e.born:Int)==(clock:Int))=some es.size:=by
    rw[Go.WideElems.findIdx_arr,Array.toList_push,zdW hst _ rfl];simp
   have hmod:(es.push ⟨E.enc x,z,clock⟩).modify es.size (fun e=>{e with val:=v})=es.push ⟨E.enc x,v,clock⟩:=by
    apply Array.ext';rw[Array.toList_modify,Array.toList_push,Array.toList_push]
    have:∀(l:List MapEntry) (a:MapEntry),(l++[a]).modify l.length (fun e=>{e with val:=v})=l++[{a with val:=v}]:=fun l a=>by
     induction l with
     | nil=>rfl
     | cons y r ih=>rw[List.cons_append,List.length_cons,List.modify_succ_cons,ih];rfl
    exact this es.toList _
   refine⟨ChangeMaps.setBlock w2 b (.map (es.push ⟨E.enc x,v,clock⟩) (clock+1)),?_,?_,⟨rfl,rfl,rfl,by simp[ChangeMaps.setBlock],fun i _ hi=>ChangeMaps.heap_setBlock_other hw2 _ (fun e=>hi (by rw[e]))⟩⟩
   ·simp[Instr.entryStore,MapKept.run_getObj_map hw2,asInt,asIntOf,goInt,hfi,hmod,MapKept.run_setObj_map _ hw2,Result.andThen,ChangeMaps.setBlock]
   ·rw[putA_none h2];refine⟨_,_,ChangeMaps.heap_setBlock_same hw2 _,?_,?_,?_,?_,?_⟩
    ·rw[Array.toList_push,List.map_append,List.map_append,he];rfl
    ·intro p hp;rcases List.mem_append.1 hp with q|q
     ·exact hk p q
     ·rw[List.mem_singleton]at q;subst q;exact hx
    ·rw[List.map_append,List.nodup_append];refine⟨hnd,by simp,fun a ha d hd=>?_⟩;obtain⟨p,hp,rfl⟩:=List.mem_map.1 ha;simp only[List.map_cons,List.map_nil,List.mem_singleton]at hd;subst hd;exact za8.1 h2 p hp
    ·intro e he;rw[Array.toList_push]at he;rcases List.mem_append.1 he with q|q
     ·have:=hst e q;omega
     ·rw[List.mem_singleton]at q;subst q;simp
    ·rw[Array.toList_push,List.map_append,List.nodup_append];refine⟨hbn,by simp,fun a ha d hd=>?_⟩;obtain⟨p,hp,rfl⟩:=List.mem_map.1 ha;simp only[List.map_cons,List.map_nil,List.mem_singleton]at hd
     have:=hst p hp
     omega
  ·rw[h2,Option.getD_none,putA_none h2];refine⟨_,_,ChangeMaps.heap_setBlock_same hb _,?_,?_,?_⟩
   ·rw[Array.toList_push,List.map_append,List.map_append,he];rfl
   ·intro p hp;rcases List.mem_append.1 hp with q|q
    ·exact hk p q
    ·rw[List.mem_singleton]at q;subst q;exact hx
   ·rw[List.map_append,List.nodup_append];refine⟨hnd,by simp,fun a ha d hd=>?_⟩;obtain⟨p,hp,rfl⟩:=List.mem_map.1 ha;simp only[List.map_cons,List.map_nil,List.mem_singleton]at hd;subst hd;exact za8.1 h2 p hp
 ·have hj:es[j]?=some e0:=by simpa using h2
  have hjs:j<es.size:=(Array.getElem?_eq_some_iff.1 hj).1
  have hsame:es.modify j (fun e=>{e with key:=E.enc x})=es:=by
   apply Array.ext';rw[Array.toList_modify,ChangeMaps.modify_eq_set _ _ _ _ h2];refine List.ext_getElem? fun i=>?_;rw[List.getElem?_set];by_cases hij:j=i
   ·subst hij;rw[if_pos rfl,if_pos (by simpa using hjs),h2,<-h3]
   ·rw[if_neg hij]
  refine⟨e0.val,goInt e0.born,ChangeMaps.setBlock w b (.map es clock),?_,⟨by simpa[ChangeMaps.setBlock] using hbl,fun w2 hw2 v=>?_⟩,by rw[h4,Option.getD_some,zdD h4];exact⟨es,clock,ChangeMaps.heap_setBlock_same hb _,he,hk,hnd⟩,⟨rfl,rfl,rfl,by simp[ChangeMaps.setBlock],fun i _ hi=>ChangeMaps.heap_setBlock_other hb _ (fun e=>hi (by rw[e]))⟩⟩
  ·simp[Instr.mapEntry,run_underlying ht,MapKept.run_getObj_map hb,K.check w false hlx,h1,hj,h3,K.stays w hlx,MapKept.run_setObj_map _ hb,Result.andThen,ChangeMaps.setBlock,hsame]
  ·rw[ChangeMaps.heap_setBlock_same hb]at hw2
   have hfi:es.findIdx? (fun e=>(e.born:Int)==(e0.born:Int))=some j:=by
    rw[Go.WideElems.findIdx_arr,zkt hbn h2]
   refine⟨ChangeMaps.setBlock w2 b (.map (es.modify j (fun e=>{e with val:=v})) clock),?_,?_,⟨rfl,rfl,rfl,by simp[ChangeMaps.setBlock],fun i _ hi=>ChangeMaps.heap_setBlock_other hw2 _ (fun e=>hi (by rw[e]))⟩⟩
   ·simp[Instr.entryStore,MapKept.run_getObj_map hw2,asInt,asIntOf,goInt,hfi,MapKept.run_setObj_map _ hw2,Result.andThen,ChangeMaps.setBlock]
   ·have hml:(es.modify j (fun e=>{e with val:=v})).toList=es.toList.set j {e0 with val:=v}:=by
     rw[Array.toList_modify,ChangeMaps.modify_eq_set _ _ _ _ h2]
    rw[zcX hnd h5];refine⟨_,_,ChangeMaps.heap_setBlock_same hw2 _,?_,?_,?_,?_,?_⟩
    ·rw[hml,List.map_set,List.map_set,he,h3]
    ·intro p hp;rcases List.mem_or_eq_of_mem_set hp with q|q
     ·exact hk p q
     ·rw[q];exact hx
    ·have e1:(l.set j (x,v)).map Prod.fst=l.map Prod.fst:=by
      rw[List.map_set];refine List.ext_getElem? fun i=>?_;rw[List.getElem?_set];by_cases hij:j=i
      ·subst hij;have hjl:j<(l.map Prod.fst).length:=by rw[List.length_map];exact(List.getElem?_eq_some_iff.1 h5).1
       rw[if_pos rfl,if_pos hjl,List.getElem?_map,h5];rfl
      ·rw[if_neg hij]
     rw[e1];exact hnd
    ·intro e he;rw[hml]at he;rcases List.mem_or_eq_of_mem_set he with q|q
     ·exact hst e q
     ·rw[q];exact hst e0 (List.mem_of_getElem? h2)
    ·have e1:(es.toList.set j {e0 with val:=v}).map (·.born)=es.toList.map (·.born):=by
      rw[List.map_set];refine List.ext_getElem? fun i=>?_;rw[List.getElem?_set];by_cases hij:j=i
      ·subst hij;have hjl:j<(es.toList.map (·.born)).length:=by rw[List.length_map];simpa using hjs
       rw[if_pos rfl,if_pos hjl,List.getElem?_map,h2];rfl
      ·rw[if_neg hij]
     rw[hml,e1];exact hbn
end
end Go.Mw
namespace Go.Proofs.YtcmhaemaophplaaGreat
end Go.Proofs.YtcmhaemaophplaaGreat
namespace Go.Proofs.YtcmhaemaophplaaGreat
set_option maxRecDepth 100000
set_option maxHeartbeats 40000000
open Go.RowKit
theorem ze6 (z:Int) (hz:-9223372036854775808<=z) (hz':z<=9223372036854775807) (w:World) :
  Calls Tryz.prog 78 #[.int .i64 z] w fun e w'=>e=.returned (.int .i64 (-1-z))/\w'=w:=by
 have hs:IntKind.i64.wrap (-1-z) = -1-z:=IntWalk.i64_in _ (by omega);clear hz hz'
 go_enter Tryz.func78,Tryz.ntmps78
 go_wp2;go_ret
 exact⟨rfl,rfl⟩
theorem za6 (z:Int) (w:World) :
  Calls Tryz.prog 75 #[.int .i64 z] w fun e w'=>e=.returned (.bool (decide (z<0)))/\w'=w:=by
 go_enter Tryz.func75,Tryz.ntmps75
 go_wp2;go_ret
 exact⟨rfl,rfl⟩
theorem zcc (n:Int) (w:World) :
  Calls Tryz.prog 30 #[.int .i64 n] w fun e w'=>e=.returned (.int .u32 (S.bit n))/\w'=w:=by
 go_enter Tryz.func30,Tryz.ntmps30
 by_cases h:n<0
 ·have e:=aA (S.bit_neg h);go_wp2;go_ret
  rw[e.o];exact⟨rfl,rfl⟩
 ·have h':0<=n:=by omega
  have e:=aA (zgT n h');go_wp2;go_ret
  exact⟨aS e.o,rfl⟩
def zkT (x:Nat×Bool) (r:Nat):Nat:=if x.2=true then x.1 ||| r else x.1
def tlV (x:Nat×Bool):Value:=.agg #[.int .u32 (x.1:Int),.bool x.2]
def tlF (x:Nat×Bool):List Value:=[.int .u32 (x.1:Int),.bool x.2]
theorem zcO (x:Nat×Bool):(tlF x).length=2:=rfl
theorem zlL:(Tryz.prog.info? 146).map (fun i=>(i.zero,i.size,i.bytes))=some (some (.agg #[.int .u32 0,.bool false]),2,8):=by kernel_rfl
theorem zko:(Tryz.prog.info? 143).map (fun i=>(i.zero,i.size,i.bytes))=some (some (.slice none 0 0),1,24):=by kernel_rfl
theorem zhh (x:Nat×Bool) (r:Nat) (hx:x.1<4294967296) (hr:r<4294967296) (w:World) :
  Calls Tryz.prog 117 #[tlV x,.int .u32 (r:Int)] w fun e w'=>e=.returned (.int .u32 (zkT x r:Int))/\Below w.heap.size w w':=by
 have HS0:=aA (bK.start 146 w #[.int .u32 (x.1:Int),.bool x.2]);have e:=aA (u32_or_nat x.1 r hx hr);have HT:Hid (zkT x r=if x.2=true then x.1 ||| r else x.1):=aA rfl;generalize zkT x r=z at *;clear hx hr;unfold tlV;cases hb:x.2
 ·rw[hb]at HT HS0;clear hb;generalize x.1=b at *
  go_enter Tryz.func117,Tryz.ntmps117
  go_wp2;go_ret
  exact⟨by rw[HT.o];rfl,HS0.o.below⟩
 ·rw[hb]at HT HS0;clear hb;generalize x.1=b at *
  go_enter Tryz.func117,Tryz.ntmps117
  go_wp2_with (rw[e.o])
  go_ret
  exact⟨by rw[HT.o];rfl,HS0.o.below⟩
theorem zjL:(match Tryz.prog.underlying 112 with|some (.array _ _)|some (.struct _)=>true|_=>false)=true:=by rw[Tryz.underlying112]
theorem wkK:Maps.Keyed Tryz.prog 112:=Maps.Keyed.of_law (deep_law (m:=2) (by omega) (by kernel_rfl) (by kernel_rfl) zjL)
theorem zkS (x:Au.It) (h:Gm.In x.1/\Gm.In x.2):∃l,keyOf Tryz.prog 112 (itV x)=some l:=by
 have h1:(Lit.int .i64 x.1).wf=true:=WalkArith.wf_i64 (by unfold Gm.In at h;omega);have h2:(Lit.int .i64 x.2).wf=true:=WalkArith.wf_i64 (by unfold Gm.In at h;omega);have hk:Tryz.prog.keyType 112=true:=by kernel_rfl
 have hc:Tryz.prog.cellsOf 112=2:=by kernel_rfl
 have hci:Tryz.prog.cellsOf 3=1:=by kernel_rfl
 unfold keyOf;rw[Tryz.underlying112];have hfm:(itV x).formed Tryz.prog 112=true:=by simp[Value.formed,Tryz.underlying112,hc]
 have hl:∃ls,Tryz.prog.keyLits (Tryz.prog.types.size+1) 112 (itV x).cells.toList=some ls:=by
  obtain⟨n,hn⟩:∃n,Tryz.prog.types.size=n+1:=⟨Tryz.prog.types.size-1,by have:0<Tryz.prog.types.size:=of_decide_eq_true (by kernel_rfl);omega⟩
  rw[hn];simp[Program.keyLits,Tryz.underlying112,Tryz.underlying3,hc,hci,Value.cells,h1,h2]
 obtain⟨ls,hls⟩:=hl;simp only[hk,hfm,hls];exact⟨_,rfl⟩
def wkE:Mw.Enc Tryz.prog 112 Au.It where
 enc x:=itV x
 ok x:=Gm.In x.1/\Gm.In x.2
 key x h:=zkS x h
 inj x y _ _ h:=by
  injection h with h;simp at h;exact Prod.ext h.1 h.2
theorem zku:(match Tryz.prog.underlying 71 with|some (.array _ _)|some (.struct _)=>true|_=>false)=true:=by rw[Tryz.underlying71]
theorem enK:Maps.Keyed Tryz.prog 71:=Maps.Keyed.of_law (deep_law (m:=2) (by omega) (by kernel_rfl) (by kernel_rfl) zku)
theorem zl6 (x:Au.It) (h:Gm.In x.1/\Gm.In x.2):∃l,keyOf Tryz.prog 71 (itV x)=some l:=by
 have h1:(Lit.int .i64 x.1).wf=true:=WalkArith.wf_i64 (by unfold Gm.In at h;omega);have h2:(Lit.int .i64 x.2).wf=true:=WalkArith.wf_i64 (by unfold Gm.In at h;omega);have hk:Tryz.prog.keyType 71=true:=by kernel_rfl
 have hc:Tryz.prog.cellsOf 71=2:=by kernel_rfl
 have hci:Tryz.prog.cellsOf 3=1:=by kernel_rfl
 unfold keyOf;rw[Tryz.underlying71];have hfm:(itV x).formed Tryz.prog 71=true:=by simp[Value.formed,Tryz.underlying71,hc]
 have hl:∃ls,Tryz.prog.keyLits (Tryz.prog.types.size+1) 71 (itV x).cells.toList=some ls:=by
  obtain⟨n,hn⟩:∃n,Tryz.prog.types.size=n+1:=⟨Tryz.prog.types.size-1,by have:0<Tryz.prog.types.size:=of_decide_eq_true (by kernel_rfl);omega⟩
  rw[hn];simp[Program.keyLits,Tryz.underlying71,Tryz.underlying3,hc,hci,Value.cells,h1,h2]
 obtain⟨ls,hls⟩:=hl;simp only[hk,hfm,hls];exact⟨_,rfl⟩
def enE:Mw.Enc Tryz.prog 71 Au.It where
 enc x:=itV x
 ok x:=Gm.In x.1/\Gm.In x.2
 key x h:=zl6 x h
 inj x y _ _ h:=by
  injection h with h;simp at h;exact Prod.ext h.1 h.2
theorem zlJ:(Tryz.prog.info? 112).map (fun i=>(i.zero,i.size,i.bytes))=some (some (.agg #[.int .i64 0,.int .i64 0]),2,16):=by kernel_rfl
theorem ziD {P:Program} {w:World} {o:Oper} {a:Act} {Q:Exit->Act->World->Prop} {K:Act->World->Prop}
  (m x v:Operand) (t:TypeId) (hop:o.op=Op.mapUpdate t m x v) {mv xv vv:Value} {R:World->Prop} (h:∃w',(Instr.mapUpdate t mv xv vv).run P w=.ok () w'/\R w') (hm:a.eval m=mv) (hx:a.eval x=xv) (hv:a.eval v=vv)
  (hK:∀w',R w'->K (a.put o.dst undef) w'):o.wp P a w K Q:=by
 obtain⟨w',hrun,hR⟩:=h;unfold Oper.wp;simp[execOp,hop,hm,hx,hv,hrun,Result.andThen];exact hK w' hR
theorem zaf {w:World} {base:Nat} {e:TypeId} {size n:Nat} {v:Value} {xs:List Value} (h:w.ownsRow base e size v n xs) {g:Nat} {o:Obj} (hg:w.heap[g]?=some o) (ho:∀cur,o ≠ .cells cur e (0,0)):v.ownBlock=none\/v.ownBlock≠some g:=by
 rcases h.2 with⟨rfl,_⟩|⟨g',cap,cur,rfl,_,hg',_⟩
 ·exact .inl rfl
 ·refine .inr fun e1=>?_;injection e1 with e1;have e1:g'=g:=e1;subst e1;rw[hg]at hg';injection hg' with hg';exact ho _ hg'
theorem aJ {w w':World} {base:Nat} {e:TypeId} {size n:Nat} {v:Value} {xs:List Value} (h:w.ownsRow base e size v n xs) (hg:w.grownBy w' v.ownBlock) {g:Nat} {o:Obj} (hb:w.heap[g]?=some o) (ho:∀cur,o ≠ .cells cur e (0,0)):w'.heap[g]?=some o:=by
 refine(hg.block g (Array.getElem?_eq_some_iff.1 hb).1 fun e1=>?_).trans hb;rcases zaf h hb ho with q|q
 ·rw[q]at e1;cases e1
 ·exact q e1.symm
structure KeepI (w w':World):Prop where
 size:w.heap.size<=w'.heap.size
 keep:∀(g:Nat) (cs:Array Value) (T:TypeId) (fr:Nat×Nat),w.heap[g]?=some (.cells cs T fr)->T≠60->T≠52->w'.heap[g]?=some (.cells cs T fr)
section
variable {w w' w2:World}
theorem KeepI.refl (w:World):KeepI w w:=⟨Nat.le_refl _,fun _ _ _ _ h _ _=>h⟩
theorem KeepI.trans (h:KeepI w w') (k:KeepI w' w2):KeepI w w2:=⟨Nat.le_trans h.size k.size,fun g cs T fr h1 h2 h3=>k.keep g cs T fr (h.keep g cs T fr h1 h2 h3) h2 h3⟩
theorem KeepI.below (h:Below w.heap.size w w'):KeepI w w':=⟨h.size,fun g _ _ _ h1 _ _=>(h.block g (Array.getElem?_eq_some_iff.1 h1).1).trans h1⟩
theorem KeepI.own {base n:Nat} {v:Value} {xs:List Value} (h:w.ownsRow base 60 2 v n xs) (hg:w.grownBy w' v.ownBlock):KeepI w w':=⟨hg.size,fun g cs T fr h1 h2 _=>aJ h hg h1 fun cur e=>by injection e with _ e _;exact h2 e⟩
theorem KeepI.map {M:Nat} {es:Array MapEntry} {ck:Nat} (h:w.heap[M]?=some (.map es ck)) (hg:w.grownBy w' (some M)):KeepI w w':=⟨hg.size,fun g cs T fr h1 _ _=>(hg.block g (Array.getElem?_eq_some_iff.1 h1).1 (fun e=>by injection e with e;rw[e,h]at h1;cases h1)).trans h1⟩
theorem KeepI.set {pA i:Nat} {cs:Array Value} {fr:Nat×Nat} (h:w.heap[pA]?=some (.cells cs 52 fr)) (u:Value):KeepI w (w.setCell ⟨pA,i,none⟩ u):=⟨by simp,fun g cs' T fr' h1 _ h3=>(Below.heap_setCell w ⟨pA,i,none⟩ u g (fun e=>by
 have e:g=pA:=e;rw[e,h]at h1;injection h1 with h1;injection h1 with _ h1 _;exact h3 h1.symm)).trans h1⟩
end
structure AdSt (w:World) (base pA pT M:Nat) (xs:List Au.It):Prop where
 v:∃v,w.heap[pA]?=some (.cells #[v] 52 (0,0))/\aQ 60 2 prF w base v xs
 t:w.heap[pT]?=some (.cells #[.map (some M)] 176 (0,0))
 l:∃l,Mw.MapIs itE w M l/\∀x,Mw.asc l x=if x∈xs then some (.bool true) else none
 hA:base<=pA
 hT:base<=pT
 hM:base<=M
section
variable {w w':World} {base pA pT M:Nat} {xs:List Au.It}
theorem AdSt.below (h:AdSt w base pA pT M xs) (hb:Below w.heap.size w w'):AdSt w' base pA pT M xs:=by
 obtain⟨⟨v,h1,h2⟩,h3,⟨l,h4,h5⟩,h6,h7,h8⟩:=h;exact⟨⟨v,aC hb h1,h2.below hb (Nat.le_refl _)⟩,aC hb h3,⟨l,h4.block (hb.block _ h4.lt),h5⟩,h6,h7,h8⟩
theorem AdSt.base_le (h:AdSt w base pA pT M xs):base<=w.heap.size:=by
 have:=(Array.getElem?_eq_some_iff.1 h.t).1
 have:=h.hT
 omega
end
theorem aK {cs cur:Array Value} {T T':TypeId} (h:T≠T'):(Obj.cells cs T (0,0)) ≠ .cells cur T' (0,0):=fun e=>by
 injection e with _ e _;exact h e
theorem zeS (x:Int×Int) (w:World) (g:Nat) (hb:w.heap[g]?=some (.cells #[.int .i64 x.1,.int .i64 x.2] 60 (0,0))):∀j u,(prF x)[j]?=some u->w.cell? ⟨g,j,none⟩=some u:=fun j u hu=>by
 refine(cell_of_row w g j _ _ _ hb).trans ?_
 match j,hu with
 | 0,hu=>exact hu
 | 1,hu=>exact hu
 | j+2,hu=>simp[prF]at hu
theorem AdSt.put {w w5 w6:World} {base pA pT M:Nat} {xs:List Au.It} {x:Au.It} {v v5:Value} {l:List (Au.It×Value)} (hn:x ∉ xs)
  (h1:w.heap[pA]?=some (.cells #[v] 52 (0,0))) (h2:aQ 60 2 prF w base v xs) (h3:w.heap[pT]?=some (.cells #[.map (some M)] 176 (0,0)))
  (h5:∀x,Mw.asc l x=if x∈xs then some (.bool true) else none) (hA:base<=pA) (hT:base<=pT) (hM:base<=M)
  (ho:aQ 60 2 prF w5 base v5 (xs++[x])) (hg:w.grownBy w5 v.ownBlock) (hm:Mw.MapIs itE w6 M (l++[(x,.bool true)])) (hg6:w5.grownBy w6 (some M)) (hM5:Mw.MapIs itE w5 M l) :
  AdSt (w6.setCell ⟨pA,0,none⟩ v5) base pA pT M (Au.addX xs x)/\(Below base w w6->Below base w (w6.setCell ⟨pA,0,none⟩ v5)):=by
 have hneA:M≠pA:=fun e=>by
  have:=aJ h2 hg h1 fun cur=>aK (by decide)
  rw[<-e]at this;exact hM5.not_cells this
 have hneT:M≠pT:=fun e=>by
  have:=aJ h2 hg h3 fun cur=>aK (by decide)
  rw[<-e]at this;exact hM5.not_cells this
 have hATn:pA≠pT:=fun e=>by
  rw[e,h3]at h1;injection h1 with h1;exact aK (by decide) h1
 have a5:=aJ h2 hg h1 fun cur=>aK (by decide);have t5:=aJ h2 hg h3 fun cur=>aK (by decide);have a6:w6.heap[pA]?=some (.cells #[v] 52 (0,0)):=(hg6.block pA (Array.getElem?_eq_some_iff.1 a5).1 (fun e=>by injection e with e;exact hneA e.symm)).trans a5;have t6:w6.heap[pT]?=some (.cells #[.map (some M)] 176 (0,0)):=(hg6.block pT (Array.getElem?_eq_some_iff.1 t5).1 (fun e=>by injection e with e;exact hneT e.symm)).trans t5;obtain⟨es,ck,hmb,_⟩:=hM5;have o6:aQ 60 2 prF w6 base v5 (xs++[x]):=World.ownsRow.kept ho hg6 (zaf ho hmb fun cur e=>by cases e);have o7:aQ 60 2 prF (w6.setCell ⟨pA,0,none⟩ v5) base v5 (xs++[x]):=World.ownsRow.kept o6 (aF (World.grownBy.refl _ _) 0 v5) (zaf o6 a6 fun cur=>aK (by decide));have e:Au.addX xs x=xs++[x]:=by unfold Au.addX;rw[if_neg hn]
 rw[e];refine⟨⟨⟨v5,heap_setCell_same w6 pA 0 _ _ _ a6,o7⟩,(Below.heap_setCell w6 ⟨pA,0,none⟩ v5 pT (fun e=>hATn e.symm)).trans t6,⟨_,hm.block (Below.heap_setCell w6 ⟨pA,0,none⟩ v5 M hneA),fun y=>?_⟩,hA,hT,hM⟩,fun hb=>hb.setCell hA _⟩;have hxn:Mw.asc l x=none:=by rw[h5,if_neg hn]
 rw[Mw.asc_snoc hxn,h5];by_cases e1:x=y
 ·subst e1;simp
 ·rw[if_neg e1];by_cases e2:y∈xs
  ·rw[if_pos e2,if_pos (List.mem_append_left _ e2)]
  ·rw[if_neg e2,if_neg];intro q;rcases List.mem_append.1 q with q|q
   ·exact e2 q
   ·exact e1 (List.mem_singleton.1 q).symm
end Go.Proofs.YtcmhaemaophplaaGreat
namespace Go.Proofs.YtcmhaemaophplaaGreat
set_option maxRecDepth 100000
set_option maxHeartbeats 40000000
open Go.RowKit
def bS (w:World) (gc:Nat):Option Nat:=match w.cell? ⟨gc,0,none⟩ with
 | some v=>v.ownBlock
 | none=>none
theorem zbs {w:World} {gc:Nat} {v:Value} (h:w.cell? ⟨gc,0,none⟩=some v):bS w gc=v.ownBlock:=by unfold bS;rw[h]
structure KeepG (gc M D:Nat) (w w':World):Prop where
 size:w.heap.size<=w'.heap.size
 keep:∀g,g<w.heap.size->g≠gc->g≠M->g≠D->bS w gc≠some g->w'.heap[g]?=w.heap[g]?
 own:bS w' gc=bS w gc \/ ∃k,bS w' gc=some k/\w.heap.size<=k
section
variable {gc M D:Nat} {w w' w2:World}
theorem KeepG.refl (w:World):KeepG gc M D w w:=⟨Nat.le_refl _,fun _ _ _ _ _ _=>rfl,.inl rfl⟩
theorem KeepG.trans (h:KeepG gc M D w w') (k:KeepG gc M D w' w2):KeepG gc M D w w2:=by
 refine⟨Nat.le_trans h.size k.size,fun g h1 h2 h3 h4 h5=>(k.keep g (Nat.lt_of_lt_of_le h1 h.size) h2 h3 h4 fun e=>?_).trans (h.keep g h1 h2 h3 h4 h5),?_⟩
 ·rcases h.own with q|⟨j,q,hj⟩
  ·rw[q]at e;exact h5 e
  ·rw[q]at e;injection e with e;omega
 ·rcases k.own with q|⟨j,q,hj⟩
  ·rw[q];exact h.own
  ·exact .inr ⟨j,q,Nat.le_trans h.size hj⟩
theorem KeepG.below (h:Below w.heap.size w w') (hg:gc<w.heap.size):KeepG gc M D w w' :=
 ⟨h.size,fun g h1 _ _ _ _=>h.block g h1,.inl (by unfold bS;rw[h.cell (p:=⟨gc,0,none⟩) hg])⟩
theorem KeepG.off (h:KeepG gc M D w w') {g:Nat} (hg:g<w.heap.size) (hn:bS w gc≠some g):bS w' gc≠some g:=by
 rcases h.own with q|⟨j,q,hj⟩
 ·rw[q];exact hn
 ·rw[q];intro e;injection e with e;omega
theorem KeepG.row (h:KeepG gc M D w w') {g:Nat} {cs:Array Value} {t:TypeId} {f:Nat×Nat} (hb:w.heap[g]?=some (.cells cs t f)) (h1:g≠gc) (h2:g≠M) (h3:g≠D) (h4:bS w gc≠some g):w'.heap[g]?=some (.cells cs t f):=(h.keep g (Array.getElem?_eq_some_iff.1 hb).1 h1 h2 h3 h4).trans hb
theorem KeepG.map (hg:w.grownBy w' (some M)) (h1:gc<w.heap.size) (h2:gc≠M):KeepG gc M D w w' :=
 ⟨hg.size,fun g k1 _ k3 _ _=>hg.block g k1 (fun e=>by injection e with e;exact k3 e),.inl (by
  unfold bS;rw[show w'.cell? ⟨gc,0,none⟩=w.cell? ⟨gc,0,none⟩ from World.cell?_of_block (hg.block gc h1 (fun e=>by injection e with e;exact h2 e))])⟩
theorem KeepG.mapD (hg:w.grownBy w' (some D)) (h1:gc<w.heap.size) (h2:gc≠D):KeepG gc M D w w' :=
 ⟨hg.size,fun g k1 _ _ k4 _=>hg.block g k1 (fun e=>by injection e with e;exact k4 e),.inl (by
  unfold bS;rw[show w'.cell? ⟨gc,0,none⟩=w.cell? ⟨gc,0,none⟩ from World.cell?_of_block (hg.block gc h1 (fun e=>by injection e with e;exact h2 e))])⟩
end
def wrC (g0 g1 g2 g3 tv:Value) (T M D:Nat):Array Value:=#[g0,g1,g2,g3,tv,.map (some T),.map (some M),.map (some D)]
structure WkSt (w:World) (base R gc T M D:Nat) (g0 g1 g2 g3 tv:Value) (tl:List ((Int×Int)×Value)) (MM DD:Lk.MP) (st:List (Int×Int)):Prop where
 r:w.heap[R]?=some (.cells (wrC g0 g1 g2 g3 tv T M D) 110 (0,0))
 v:∃v,w.heap[gc]?=some (.cells #[v] 147 (0,0))/\aQ 112 2 prF w base v st
 t:Mw.MapIs wkE w T tl
 m:Mw.MapU wkE w M (Lk.encM MM)
 d:Mw.MapU enE w D (Lk.encM DD)
 hR:base<=R
 hg:base<=gc
 hT:base<=T
 hM:base<=M
 hD:base<=D
 ne:T≠M/\T≠D/\M≠D
section
variable {w w':World} {base R gc T M D:Nat} {g0 g1 g2 g3 tv:Value} {tl:List ((Int×Int)×Value)} {MM DD:Lk.MP} {st:List (Int×Int)}
theorem WkSt.below (h:WkSt w base R gc T M D g0 g1 g2 g3 tv tl MM DD st) (hb:Below w.heap.size w w'):WkSt w' base R gc T M D g0 g1 g2 g3 tv tl MM DD st:=by
 obtain⟨h1,⟨v,h2,h3⟩,h4,h5,h6,a1,a2,a3,a4,a5,h7⟩:=h;exact⟨aC hb h1,⟨v,aC hb h2,h3.below hb (Nat.le_refl _)⟩,h4.block (hb.block _ h4.lt),h5.block (hb.block _ h5.lt),h6.block (hb.block _ h6.lt),a1,a2,a3,a4,a5,h7⟩
theorem WkSt.own (h:WkSt w base R gc T M D g0 g1 g2 g3 tv tl MM DD st) (k:Nat) (hk:bS w gc=some k):k<w.heap.size:=by
 obtain⟨v,h2,h3⟩:=h.v;rw[zbs (cell_of_row w gc 0 _ _ _ h2)]at hk;exact(World.ownsRow.lt h3 k hk).2
theorem WkSt.base_le (h:WkSt w base R gc T M D g0 g1 g2 g3 tv tl MM DD st):base<=w.heap.size:=by
 have:=h.m.lt
 have:=h.hM
 omega
theorem WkSt.gcl (h:WkSt w base R gc T M D g0 g1 g2 g3 tv tl MM DD st):gc<w.heap.size:=by
 obtain⟨v,h2,_⟩:=h.v;exact(Array.getElem?_eq_some_iff.1 h2).1
theorem WkSt.gcM (h:WkSt w base R gc T M D g0 g1 g2 g3 tv tl MM DD st):gc≠M/\gc≠D/\gc≠T/\R≠M/\R≠D/\R≠gc:=by
 obtain⟨v,h2,_⟩:=h.v;refine⟨fun e=>?_,fun e=>?_,fun e=>?_,fun e=>?_,fun e=>?_,fun e=>?_⟩
 ·rw[e]at h2;exact h.m.is.not_cells h2
 ·rw[e]at h2;exact h.d.is.not_cells h2
 ·rw[e]at h2;exact h.t.not_cells h2
 ·have:=h.r;rw[e]at this;exact h.m.is.not_cells this
 ·have:=h.r;rw[e]at this;exact h.d.is.not_cells this
 ·have:=h.r
  rw[e,h2]at this;injection this with this;exact aK (by decide) this
theorem WkSt.mset (h:WkSt w base R gc T M D g0 g1 g2 g3 tv tl MM DD st) {MM':Lk.MP} (hg:w.grownBy w' (some M)) (hm:Mw.MapU wkE w' M (Lk.encM MM')):WkSt w' base R gc T M D g0 g1 g2 g3 tv tl MM' DD st:=by
 obtain⟨n1,n2,n3,n4,n5,n6⟩:=h.gcM;obtain⟨h1,⟨v,h2,h3⟩,h4,h5,h6,a1,a2,a3,a4,a5,h7⟩:=h;obtain⟨es,ck,hmb,_⟩:=h5
 exact⟨(hg.block R (Array.getElem?_eq_some_iff.1 h1).1 (fun e=>by injection e with e;exact n4 e)).trans h1,
  ⟨v,(hg.block gc (Array.getElem?_eq_some_iff.1 h2).1 (fun e=>by injection e with e;exact n1 e)).trans h2,World.ownsRow.kept h3 hg (zaf h3 hmb fun cur e=>by cases e)⟩,
  h4.block (hg.block T h4.lt (fun e=>by injection e with e;exact h7.1 e)),hm,h6.block (hg.block D h6.lt (fun e=>by injection e with e;exact h7.2.2 e.symm)),a1,a2,a3,a4,a5,h7⟩
theorem WkSt.dset (h:WkSt w base R gc T M D g0 g1 g2 g3 tv tl MM DD st) {DD':Lk.MP} (hg:w.grownBy w' (some D)) (hm:Mw.MapU enE w' D (Lk.encM DD')):WkSt w' base R gc T M D g0 g1 g2 g3 tv tl MM DD' st:=by
 obtain⟨n1,n2,n3,n4,n5,n6⟩:=h.gcM;obtain⟨h1,⟨v,h2,h3⟩,h4,h5,h6,a1,a2,a3,a4,a5,h7⟩:=h;obtain⟨es,ck,hmb,_⟩:=h6
 exact⟨(hg.block R (Array.getElem?_eq_some_iff.1 h1).1 (fun e=>by injection e with e;exact n5 e)).trans h1,
  ⟨v,(hg.block gc (Array.getElem?_eq_some_iff.1 h2).1 (fun e=>by injection e with e;exact n2 e)).trans h2,World.ownsRow.kept h3 hg (zaf h3 hmb fun cur e=>by cases e)⟩,
  h4.block (hg.block T h4.lt (fun e=>by injection e with e;exact h7.2.1 e)),h5.block (hg.block M h5.lt (fun e=>by injection e with e;exact h7.2.2 e)),hm,a1,a2,a3,a4,a5,h7⟩
end
section
variable {w w5:World} {base R gc T M D:Nat} {g0 g1 g2 g3 tv:Value} {tl:List ((Int×Int)×Value)} {MM DD:Lk.MP} {st st':List (Int×Int)} {v v5:Value}
theorem WkSt.push (h:WkSt w base R gc T M D g0 g1 g2 g3 tv tl MM DD st) (hv:w.heap[gc]?=some (.cells #[v] 147 (0,0))) (ho:aQ 112 2 prF w base v st) (ho5:aQ 112 2 prF w5 base v5 st') (hg:w.grownBy w5 v.ownBlock):WkSt (w5.setCell ⟨gc,0,none⟩ v5) base R gc T M D g0 g1 g2 g3 tv tl MM DD st':=by
 obtain⟨n1,n2,n3,n4,n5,n6⟩:=h.gcM;obtain⟨h1,_,h4,h5,h6,a1,a2,a3,a4,a5,h7⟩:=h;have r5:=aJ ho hg h1 fun cur=>aK (by decide);have v5':=aJ ho hg hv fun cur=>aK (by decide);obtain⟨es,ck,hmb,hmr⟩:=h4;have t5:=aJ ho hg hmb fun cur e=>by cases e
 obtain⟨es2,ck2,hmb2,hmr2⟩:=h5;have m5:=aJ ho hg hmb2 fun cur e=>by cases e
 obtain⟨es3,ck3,hmb3,hmr3⟩:=h6;have d5:=aJ ho hg hmb3 fun cur e=>by cases e
 have o7:aQ 112 2 prF (w5.setCell ⟨gc,0,none⟩ v5) base v5 st':=World.ownsRow.kept ho5 (aF (World.grownBy.refl _ _) 0 v5) (zaf ho5 v5' fun cur=>aK (by decide))
 exact⟨(Below.heap_setCell w5 ⟨gc,0,none⟩ v5 R n6).trans r5,⟨v5,heap_setCell_same w5 gc 0 _ _ _ v5',o7⟩,
  ⟨es,ck,(Below.heap_setCell w5 ⟨gc,0,none⟩ v5 T (fun e=>n3 e.symm)).trans t5,hmr⟩,⟨es2,ck2,(Below.heap_setCell w5 ⟨gc,0,none⟩ v5 M (fun e=>n1 e.symm)).trans m5,hmr2⟩,⟨es3,ck3,(Below.heap_setCell w5 ⟨gc,0,none⟩ v5 D (fun e=>n2 e.symm)).trans d5,hmr3⟩,a1,a2,a3,a4,a5,h7⟩
theorem KeepG.push {wA:World} (h:KeepG gc M D w wA) (hv:wA.cell? ⟨gc,0,none⟩=some v) (hg:wA.grownBy w5 v.ownBlock) (hat:v5.ownBlock=v.ownBlock\/v5.ownBlock=some wA.heap.size) {u:Value} {ty:TypeId} (hc:w5.heap[gc]?=some (.cells #[u] ty (0,0))):KeepG gc M D w (w5.setCell ⟨gc,0,none⟩ v5):=by
 have e:=zbs hv;have hs:=hg.size;have hn:bS (w5.setCell ⟨gc,0,none⟩ v5) gc=v5.ownBlock:=zbs (cell_of_row _ gc 0 _ _ _ (heap_setCell_same w5 gc 0 _ _ _ hc));refine⟨by have:=h.size;simp;omega,fun g k1 k2 k3 k4 k5=>(Below.heap_setCell w5 ⟨gc,0,none⟩ v5 g k2).trans ((hg.block g (Nat.lt_of_lt_of_le k1 h.size) (fun q=>?_)).trans (h.keep g k1 k2 k3 k4 k5)),?_⟩
 ·exact h.off k1 k5 (by rw[e,<-q])
 ·rw[hn];rcases hat with q|q
  ·rw[q,<-e];exact h.own
  ·exact .inr ⟨_,q,h.size⟩
end
theorem zh4 (x:Int×Int) (w:World) (g:Nat) (hb:w.heap[g]?=some (.cells #[.int .i64 x.1,.int .i64 x.2] 112 (0,0))):∀j u,(prF x)[j]?=some u->w.cell? ⟨g,j,none⟩=some u:=fun j u hu=>by
 refine(cell_of_row w g j _ _ _ hb).trans ?_
 match j,hu with
 | 0,hu=>exact hu
 | 1,hu=>exact hu
 | j+2,hu=>simp[prF]at hu
end Go.Proofs.YtcmhaemaophplaaGreat
namespace Go.Proofs.YtcmhaemaophplaaGreat
set_option maxRecDepth 100000
set_option maxHeartbeats 40000000
open Go.RowKit
theorem zfs (w:World) (base pA pT M:Nat) (xs:List Au.It) (x:Au.It) (h:AdSt w base pA pT M xs) (hx:Gm.In x.1/\Gm.In x.2) (hlen:xs.length<=100000) :
  Calls Tryz.prog 104 #[itV x,.pointer (some ⟨pT,0,none⟩),.pointer (some ⟨pA,0,none⟩)] w fun e w'=>e=.returned (.tuple #[])/\AdSt w' base pA pT M (Au.addX xs x)/\Below base w w'/\KeepI w w':=by
 obtain⟨wb,hwb⟩:∃y,y=w.alloc (.cells #[.int .i64 x.1,.int .i64 x.2] 60):=⟨_,rfl⟩
 have HBB:Hid (Below w.heap.size w wb):=aA (by rw[hwb];exact(Below.refl _ _).alloc (Nat.le_refl _) _);have hbx:wb.heap[w.heap.size]?=some (.cells #[.int .i64 x.1,.int .i64 x.2] 60 (0,0)):=by rw[hwb];exact heap_alloc_new w _
 have HBX:=aA hbx;have hzs:w.heap.size<wb.heap.size:=(Array.getElem?_eq_some_iff.1 hbx).1;have HH:=aA (h.below HBB.o);have HBL:=aA h.base_le;have HIN:=aA hx;obtain⟨⟨v,h1,h2⟩,h3,⟨l,h4,h5⟩,hA,hT,hM⟩:=h;have HOL:=aA (fun k (e:v.ownBlock=some k)=>(World.ownsRow.lt h2 k e).2);have hMl:=h4.lt;have h1:=aC HBB.o h1;have h2:=h2.below HBB.o (Nat.le_refl _);have h3:=aC HBB.o h3;have h4:=h4.block (HBB.o.block _ h4.lt);have HMX:=aA (show M≠w.heap.size by omega);have H1:=aA h1;have H2:=aA h2;have H3:=aA h3;have H5:=aA h5;have H4:=aA h4;have cT:wb.cell? ⟨pT,0,none⟩=some (.map (some M)):=cell_of_row wb pT 0 _ _ _ h3;have x0:wb.cell? ⟨w.heap.size,0,none⟩=some (.int .i64 x.1):=cell_of_row wb _ 0 _ _ _ hbx;have x1:wb.cell? ⟨w.heap.size,1,none⟩=some (.int .i64 x.2):=cell_of_row wb _ 1 _ _ _ hbx;have hE:=h5 x;have hkey:itE.enc x=.agg #[.int .i64 x.1,.int .i64 x.2]:=rfl;have lk:=Mw.run_look (E:=itE) h4 itK (t:=176) Tryz.underlying176 (z:=.bool false) (by kernel_rfl) (x:=x) hx false;rw[hE,hkey]at lk;by_cases hn:x∈xs
 ·rw[if_pos hn]at lk;have e:Au.addX xs x=xs:=by unfold Au.addX;rw[if_pos hn]
  simp at lk;clear h1 h2 h3 h4 h5 hE hx hbx hA hT hM hn hMl
  go_enter Tryz.func104,Tryz.ntmps104
  go_upto_region 1 with fail
  rw[<-hwb];clear hwb;go_wp2;go_end0
  exact⟨rfl,by rw[e];exact HH.o,HBB.o.mono HBL.o,.below HBB.o⟩
 ·rw[if_neg hn]at lk;simp at lk;have HN:=aA hn;obtain⟨A,c,rfl,hlc,hmc,_⟩:=aQ.form h2 aN;have HST:=aA (fun(y:World) (hy:Mw.MapIs itE y M l)=>Mw.run_put (x:=x) hy itK Tryz.underlying176 HIN.o (.bool true));have hasc:Mw.asc l x=none:=by rw[hE,if_neg hn]
  rw[Mw.putA_none hasc]at HST;have cA:wb.cell? ⟨pA,0,none⟩=some (.slice A xs.length c):=cell_of_row wb pA 0 _ _ _ h1;have HLEN:=aA hlen
  have hneX:pA≠w.heap.size:=fun e=>by
   rw[e]at h1;rw[hbx]at h1;injection h1 with h1;exact aK (by decide) h1
  have HT:=aA hT;have HA:=aA hA;have HM:=aA hM;clear h1 h2 h3 h4 h5 hE hx hbx hA hT hM hn hasc hlen hMl
  go_enter Tryz.func104,Tryz.ntmps104
  go_upto_region 1 with fail
  rw[<-hwb];clear hwb;go_upto_region 2 with fail
  have qT:∀y:OnP [pT,w.heap.size] wb,y.1.cell? ⟨pT,0,none⟩=some (.map (some M)):=fun y=>y.row (by simp) H3.o rfl;have q0:∀y:OnP [pT,w.heap.size] wb,y.1.cell? ⟨w.heap.size,0,none⟩=some (.int .i64 x.1):=fun y=>y.row (by simp) HBX.o rfl;have q1:∀y:OnP [pT,w.heap.size] wb,y.1.cell? ⟨w.heap.size,1,none⟩=some (.int .i64 x.2):=fun y=>y.row (by simp) HBX.o rfl;clear x0 x1 cT lk;have S0:∃y:OnP [pT,w.heap.size] wb,wb.drew=y.1:=⟨⟨wb.drew,fun _ _=>rfl⟩,rfl⟩
  refine CalmN.region_tree (fun x=>∃y:OnP [pT,w.heap.size] wb,x=y.1) (.two [0,1,3] 2 (.one [] 4 (.one [] 5 (.one [] 6 (.one [] 7 (.fin []))))) 4 (.one [] 2 (.one [] 5 (.one [] 6 (.one [] 7 (.fin [])))))) (by kernel_rfl) (by kernel_rfl) (fun _ _ d _ _ h=>by cases d <;> exact h) S0 ?_;rw[CalmN.wpT];simp only[CalmN.pickOps,List.getElem?_toArray,List.getElem?_cons_zero,List.getElem?_cons_succ];repeat (go_big_quiet_step (fail))
  have HSX:=aA S0;have HBD:Hid (Below w.heap.size w wb.drew):=aA (aB HBB.o 1);have H1:Hid (wb.drew.heap[pA]?=some (.cells #[.slice A xs.length c] 52 (0,0))):=H1;have H2:Hid (aQ 60 2 prF wb.drew base (.slice A xs.length c) xs):=H2;have H3:Hid (wb.drew.heap[pT]?=some (.cells #[.map (some M)] 176 (0,0))):=H3;have H4:Hid (Mw.MapIs itE wb.drew M l):=aA (H4.o.block rfl);have HBX:Hid (wb.drew.heap[w.heap.size]?=some (.cells #[.int .i64 x.1,.int .i64 x.2] 60 (0,0))):=HBX;have cA:wb.drew.cell? ⟨pA,0,none⟩=some (.slice A xs.length c):=cA
  have HSK:Hid (∀y:World,y.heap[pT]?=wb.drew.heap[pT]?->y.heap[w.heap.size]?=wb.drew.heap[w.heap.size]?->∃z:OnP [pT,w.heap.size] wb,y=z.1):=aA (fun y e1 e2=>⟨⟨y,fun g hg=>by
   rcases List.mem_cons.1 hg with rfl|hg
   ·exact e1
   ·rw[List.mem_singleton.1 hg];exact e2⟩,rfl⟩)
  have hzs2:w.heap.size<wb.drew.heap.size:=hzs;clear qT q0 q1;generalize wb.drew=wd at *;have HLA:Hid (Below wd.heap.size wd (wd.alloc (.cells #[.int .i64 x.1,.int .i64 x.2] 60))):=aA ((Below.refl _ _).alloc (Nat.le_refl _) _);have hpT:=(Array.getElem?_eq_some_iff.1 H3.o).1;have hpA:=(Array.getElem?_eq_some_iff.1 H1.o).1;have cA2:(wd.alloc (.cells #[.int .i64 x.1,.int .i64 x.2] 60)).cell? ⟨pA,0,none⟩=some (.slice A xs.length c):=cell_of_row _ pA 0 _ _ _ (aC HLA.o H1.o);have HS2:=aA (HSK.o (wd.alloc (.cells #[.int .i64 x.1,.int .i64 x.2] 60)) (HLA.o.block _ hpT) (HLA.o.block _ hzs2));refine wpQuiet_nil ⟨?_,?_⟩
  case' refine_1 =>
   simp only[CalmN.wpT,CalmN.wpSt,CalmN.pickOps,List.getElem?_toArray,List.getElem?_cons_zero,List.getElem?_cons_succ];intro KK hKK;rw[if_pos (by rfl)];go_wp2_with fail
   refine hKK _ _ HSX.o _ (fun _ h=>h) HSX.o ?_;clear hKK;refine wpQuiet_nil ?_;intro KK hKK;rw[if_pos (by rfl)];go_wp2_with fail
   refine hKK _ _ HS2.o _ (fun _ h=>h) HS2.o ?_;clear hKK;refine wpQuiet_nil ?_
  case' refine_2 =>
   simp only[CalmN.wpT,CalmN.wpSt,CalmN.pickOps,List.getElem?_toArray,List.getElem?_cons_zero,List.getElem?_cons_succ];intro KK hKK;rw[if_pos (by rfl)];go_wp2_with fail
   refine hKK _ _ HS2.o _ (fun _ h=>h) HS2.o ?_;clear hKK;refine wpQuiet_nil ?_;intro KK hKK;rw[if_pos (by rfl)];go_wp2_with fail
   refine hKK _ _ HS2.o _ (fun _ h=>h) HS2.o ?_;clear hKK;refine wpQuiet_nil ?_
  all_goals
   intro KK hKK;rw[if_pos (by rfl)];have o1:=H2.o.alloc (.cells #[.int .i64 x.1,.int .i64 x.2] 60);have HO1:=aA o1;have b1:=aC HLA.o H1.o;have b3:=aC HLA.o H3.o;have bX:=aC HLA.o HBX.o;obtain⟨es,ck,hmb,hmr⟩:=H4.o;have bM:=aC HLA.o hmb;have hnew:=heap_alloc_new wd (.cells #[.int .i64 x.1,.int .i64 x.2] 60);clear o1 cA cA2;refine zjB (f:=prF) (.tmp 10) (.tmp 12) _ rfl Tryz.underlying52 _ 16 zjm (by decide) (by decide) (by decide) aN zdF base _ xs rfl HO1.o _ _ x rfl (zeS x _ _ hnew) (by have:=HLEN.o;omega) (Nat.le_trans HBL.o (by have:=HBD.o.size;simp;omega)) ?_;intro v5 w5 ho5 hg5;obtain⟨A5,c5,rfl,_,_,_⟩:=aQ.form ho5 aN;have m5:=aJ HO1.o hg5 bM fun cur e=>by cases e
   have t5:=aJ HO1.o hg5 b3 fun cur=>aK (by decide);have a5:=aJ HO1.o hg5 b1 fun cur=>aK (by decide);have x5:w5.heap[w.heap.size]?=some (.cells #[.int .i64 x.1,.int .i64 x.2] 60 (0,0)):=(hg5.block _ (Array.getElem?_eq_some_iff.1 bX).1 (fun e=>by have:=HOL.o _ e.symm;omega)).trans bX;have HM5:Hid (Mw.MapIs itE w5 M l):=aA ⟨es,ck,m5,hmr⟩;have HS5:=aA (HSK.o w5 (t5.trans H3.o.symm) (x5.trans HBX.o.symm));have HB5:Hid (Below base w w5):=aA (((HBD.o.mono HBL.o).trans (HLA.o.mono (Nat.le_trans HBL.o HBD.o.size))).grown hg5 (Nat.le_trans HBL.o (by have:=HBD.o.size;simp;omega)) (fun k e=>(World.ownsRow.lt HO1.o k e).1));have HT5:=aA t5;have HA5:=aA a5;have HX5:=aA x5;have HO5:=aA ho5;have HG5:=aA hg5;have HC1:=aA b1;have HC3:=aA b3;clear m5 t5 a5 x5 ho5 hg5 b1 b3 bX bM hmb hmr hnew;refine hKK _ _ HS5.o _ (fun _ h=>h) HS5.o ?_;clear hKK;refine wpQuiet_nil ?_;intro KK hKK;rw[if_pos (by rfl)];refine ziD _ _ _ _ rfl (HST.o w5 HM5.o) rfl rfl rfl ?_;rintro w6 ⟨hm6,hg6⟩;have hneT:M≠pT:=fun e=>by have:=HT5.o;rw[<-e]at this;exact HM5.o.not_cells this
   have hneA:M≠pA:=fun e=>by have:=HA5.o;rw[<-e]at this;exact HM5.o.not_cells this
   have t6:=(hg6.block pT (Array.getElem?_eq_some_iff.1 HT5.o).1 (fun e=>by injection e with e;exact hneT e.symm)).trans HT5.o;have a6:=(hg6.block pA (Array.getElem?_eq_some_iff.1 HA5.o).1 (fun e=>by injection e with e;exact hneA e.symm)).trans HA5.o;have x6:=(hg6.block w.heap.size (Array.getElem?_eq_some_iff.1 HX5.o).1 (fun e=>by injection e with e;exact HMX.o e.symm)).trans HX5.o;have HS6:=aA (HSK.o w6 (t6.trans H3.o.symm) (x6.trans HBX.o.symm));have HB6:Hid (Below base w w6):=aA (zaa HB5.o hg6 HM.o (Nat.le_trans HBL.o (by have:=HB5.o.size;omega)));have HP:=aA (AdSt.put HN.o HC1.o HO1.o HC3.o H5.o HA.o HT.o HM.o HO5.o HG5.o hm6 hg6 HM5.o).1;have cA6:w6.cell? ⟨pA,0,none⟩=some (.slice A xs.length c):=cell_of_row w6 pA 0 _ _ _ a6;have fA6:=frozen_of_row w6 pA 0 _ _ a6;have lA6:=(Array.getElem?_eq_some_iff.1 a6).1;have HS7:=aA (HSK.o (w6.setCell ⟨pA,0,none⟩ (.slice A5 (xs++[x]).length c5)) ((HP.o.t).trans H3.o.symm) ((Below.heap_setCell w6 ⟨pA,0,none⟩ _ w.heap.size (fun e=>hneX e.symm)).trans (x6.trans HBX.o.symm)));have HB7:Hid (Below base w (w6.setCell ⟨pA,0,none⟩ (.slice A5 (xs++[x]).length c5))):=aA (HB6.o.setCell HA.o _);obtain⟨es5,ck5,hmb5,_⟩:=HM5.o;have HK7:Hid (KeepI w (w6.setCell ⟨pA,0,none⟩ (.slice A5 (xs++[x]).length c5))):=aA (((((KeepI.below HBD.o).trans (.below HLA.o)).trans (.own HO1.o HG5.o)).trans (.map hmb5 hg6)).trans (.set a6 _));clear hm6 hg6 hneT hneA t6 a6 x6 hmb5;generalize (xs++[x]).length=ln at *;refine hKK _ _ HS6.o _ (fun _ h=>h) HS6.o ?_;clear hKK;refine wpQuiet_nil ?_;intro KK hKK;rw[if_pos (by rfl)];go_wp2_with fail
   refine hKK _ _ HS7.o _ (fun _ h=>h) HS7.o ?_;clear hKK cA6 fA6 lA6;refine wpQuiet_nil ?_;go_wp2;go_end0
   exact⟨rfl,HP.o,HB7.o,HK7.o⟩
namespace Au
def begT (G:Gm.Gr) (left:Int) (i:Nat):List It:=((List.range i).filter fun k=>decide ((G.rs.getD k ⟨0,[],0⟩).l=left)).map fun k:Nat=>((k:Int),(0:Int))
theorem begT_yes {G:Gm.Gr} {left:Int} {i:Nat} (hi:i<G.rs.length) (h:(G.rs[i]).l=left):begT G left (i+1)=begT G left i++[((i:Int),0)]:=by
 unfold begT;rw[List.range_succ,List.filter_append,List.map_append,List.filter_cons,if_pos (by rw[decide_eq_true_eq,List.getD_eq_getElem?_getD,List.getElem?_eq_getElem hi,Option.getD_some];exact h)];rfl
theorem begT_no {G:Gm.Gr} {left:Int} {i:Nat} (hi:i<G.rs.length) (h:(G.rs[i]).l≠left):begT G left (i+1)=begT G left i:=by
 unfold begT;rw[List.range_succ,List.filter_append,List.map_append,List.filter_cons,if_neg (by rw[decide_eq_true_eq,List.getD_eq_getElem?_getD,List.getElem?_eq_getElem hi,Option.getD_some];exact h)];simp
theorem begT_len (G:Gm.Gr) (left:Int) (i:Nat):(begT G left i).length<=i:=by
 unfold begT;rw[List.length_map]
 have:=List.length_filter_le (fun k=>decide ((G.rs.getD k ⟨0,[],0⟩).l=left)) (List.range i)
 rw[List.length_range]at this;exact this
theorem addE_beg {G:Gm.Gr} {x:It} {s:Int} (h:nx G x=some s) (h0:s<0):addE G x=begT G (-1-s) G.rs.length:=by
 unfold addE begT;rw[h];simp only[if_pos h0]
theorem addE_no {G:Gm.Gr} {x:It} (h:∀s,nx G x=some s->0<=s):addE G x=[]:=by
 unfold addE;cases hn:nx G x with
 | none=>rfl
 | some s =>
  have:=h s hn
  simp only;rw[if_neg (by omega)]
theorem addsX_up:∀ {zs xs:List It},(addsX xs zs).length<=xs.length+zs.length
 | [],_=>Nat.le_refl _
 | z::zs,xs=>by
  have h:=addsX_up (zs:=zs) (xs:=addX xs z)
  have h1:(addX xs z).length<=xs.length+1:=by
   unfold addX;split
   ·omega
   ·simp
  have e:addsX xs (z::zs)=addsX (addX xs z) zs:=rfl;rw[e,List.length_cons];omega
end Au
theorem zge (v:Value) (G:Gm.Gr) (B:Nat) (left:Int) (w:World) (base pA pT M:Nat) (xs:List Au.It) (hg:aT w B v G) (hB:B<=base) (hr:G.rs.length<=1000) (h:AdSt w base pA pT M xs) (hlen:xs.length<=50000) :
  Calls Tryz.prog 107 #[v,.int .i64 left,.func (Fn.func 104) #[] #[.pointer (some ⟨pT,0,none⟩),.pointer (some ⟨pA,0,none⟩)]] w fun e w'=>e=.returned (.tuple #[])/\AdSt w' base pA pT M (Au.addsX xs (Au.begT G left G.rs.length))/\Below base w w'/\KeepI w w':=by
 obtain⟨AT,cT,AN,cN,AR,cR,rfl,_,_,⟨hlR,hmR⟩,_,_,hR⟩:=hg;obtain⟨wb,hwb⟩:∃y,y=w.alloc (.cells #[.slice AT G.ts.length cT,.slice AN G.ns.length cN,.slice AR G.rs.length cR,.int .i64 G.st] 26):=⟨_,rfl⟩
 have HBB:Hid (Below w.heap.size w wb):=aA (by rw[hwb];exact(Below.refl _ _).alloc (Nat.le_refl _) _);have hbx:wb.heap[w.heap.size]?=some (.cells #[.slice AT G.ts.length cT,.slice AN G.ns.length cN,.slice AR G.rs.length cR,.int .i64 G.st] 26 (0,0)):=by rw[hwb];exact heap_alloc_new w _
 have HR:=aA hR;have HBS:=aA h.base_le;have HB:=aA hB;have HH:=aA (h.below HBB.o);have x2:wb.cell? ⟨w.heap.size,2,none⟩=some (.slice AR G.rs.length cR):=cell_of_row wb _ 2 _ _ _ hbx;have HB0:Hid (Below base w wb):=aA (HBB.o.mono HBS.o);have HK0:Hid (KeepI w wb):=aA (.below HBB.o);have hlen2:(G.rs.length:Int)<=1000:=by omega
 have HL:=aA hlen;clear hR hB h hbx hlen
 go_enter Tryz.func107,Tryz.ntmps107
 go_upto_region 1 with fail
 rw[<-hwb];clear hwb;go_wp2;go_loopw [11] (fun vi wr=>∃i:Nat,i<=G.rs.length/\vi=.int .i64 i/\Hid (AdSt wr base pA pT M (Au.addsX xs (Au.begT G left i)))/\Hid (Below base w wr)/\Hid (KeepI w wr)) (fun vi _=>G.rs.length-(intOf vi).toNat)
 case atStart=>exact⟨0,Nat.zero_le _,rfl,HH,HB0,HK0⟩
 case round =>
  obtain⟨i,hi,rfl,HA,HW,HK⟩:=hrel;by_cases hlt:i<G.rs.length
  ·obtain⟨g,o,rfl,hgB,hc⟩:=HR.o (by omega);obtain⟨k0,⟨A',c',k1,hlc,_,hri⟩,k2⟩:=hc i hlt;have hgb:g<base:=Nat.lt_of_lt_of_le hgB HB.o;have k0:=(HW.o.cell (p:=⟨g,o+i*3,none⟩) hgb).trans k0;have k1:=(HW.o.cell (p:=⟨g,o+i*3+1,none⟩) hgb).trans k1;have k2:=(HW.o.cell (p:=⟨g,o+i*3+2,none⟩) hgb).trans k2;have HLN:=aA (show(Au.addsX xs (Au.begT G left i)).length<=100000 by have:=Au.addsX_up (xs:=xs) (zs:=Au.begT G left i);have:=Au.begT_len G left i;have:=HL.o;omega);obtain⟨wi,hwi⟩:∃y,y=wr.alloc (.cells #[.int .i64 (G.rs[i]).l,.slice A' (G.rs[i]).r.length c',.int .i64 (G.rs[i]).p] 48):=⟨_,rfl⟩
   have HBI:Hid (Below wr.heap.size wr wi):=aA (by rw[hwi];exact(Below.refl _ _).alloc (Nat.le_refl _) _);have hbi:wi.heap[wr.heap.size]?=some (.cells #[.int .i64 (G.rs[i]).l,.slice A' (G.rs[i]).r.length c',.int .i64 (G.rs[i]).p] 48 (0,0)):=by rw[hwi];exact heap_alloc_new wr _
   have y0:wi.cell? ⟨wr.heap.size,0,none⟩=some (.int .i64 (G.rs[i]).l):=cell_of_row wi _ 0 _ _ _ hbi;have HWI:=aA (HW.o.trans (HBI.o.mono (Nat.le_trans HBS.o HK.o.size)));have HKI:=aA (HK.o.trans (.below HBI.o));have HAI:=aA (HA.o.below HBI.o);have HAD:=aA (zfs wi base pA pT M _ ((i:Int),0) HAI.o (by unfold Gm.In;simp only;omega) HLN.o);have hY:=Au.begT_yes (left:=left) hlt;have hN:=Au.begT_no (left:=left) hlt;clear hc hri hlc hbi HLN;generalize (G.rs[i]).l=lf at *;generalize (G.rs[i]).r.length=rn at *;generalize (G.rs[i]).p=rp at *;go_upto_region 4 with fail
   rw[<-hwi];clear hwi k0 k1 k2;by_cases he:lf=left
   ·have hYE:=aA (hY he);have hq:(lf==left)=true:=by rw[beq_iff_eq];exact he
    clear hY hN he;go_wp2_with fail
    refine HAD.o.mono ?_;rintro _ w2 ⟨rfl,ha2,hb2,hk2⟩;have HA2:=aA ha2;have HB2:=aA (HWI.o.trans hb2);have HK2:=aA (HKI.o.trans hk2);clear ha2 hb2 hk2 y0;go_wp2;go_roundw
    case rel=>exact⟨i+1,hlt,by go_num,aA (by rw[hYE.o,Au.addsX_snoc];exact HA2.o),HB2,HK2⟩
    case measure=>simp[intOf];omega
   ·have hNE:=aA (hN he);have hq:(lf==left)=false:=by rw[beq_eq_false_iff_ne];exact he
    clear hY hN he HAD;go_wp2;go_roundw
    case rel=>exact⟨i+1,hlt,by go_num,aA (by rw[hNE.o];exact HAI.o),HWI,HKI⟩
    case measure=>simp[intOf];omega
  ·obtain rfl:i=G.rs.length:=by omega
   go_wp2;go_end0
   exact⟨rfl,HA.o,HW.o,HK.o⟩
end Go.Proofs.YtcmhaemaophplaaGreat
