/- Part of the proofs over this program: FstRef2, RlPass, RlOf0, RfBW, RefRed, RefReduce. -/
import Derived.Test.YtcmhaemaophplaaGreatXO
set_option linter.all false
namespace Go
def Cr:=@Go.World.block_lt_of_cell?
end Go
open Go.RowKit Go.Proofs.Tryz
set_option maxRecDepth 100000
set_option maxHeartbeats 40000000
namespace Go.Proofs.YtcmhaemaophplaaGreat
variable {A:Option Go.Addr} {E:List (List (Int×Int))} {G:Gm.Gr} {base' g i k m n:Nat} {j s:Int} {l:List Int} {v v':Go.Value} {x:Int×Int}
theorem QN {p:Int->Bool} (h:k<l.length):(l.take (k+1)).all p=((l.take k).all p&&p l[k]):=by
 rw[AL h,List.all_append];simp
theorem Rk {p:Int->Bool} (h:k<l.length) (hp:p l[k]=false):l.all p=false:=Em.2 ⟨_,AE h,by rw[hp];simp⟩
theorem KE (v:Value) (G:Gm.Gr) (l:List Int) (rest:Nat) (A:Option Addr) (c B:Nat) (w:World) (hg:aT w B v G) (hf:Gm.Fit G) (hB:B<=w.heap.size) (hr:gd w B A l) (ai:∀z∈l,Gm.In z) (hl:l.length<=9223372036854775807) (aa:rest<4294967296) :
  Calls prog 51 #[v,.slice A l.length c,.int .u32 rest] w fun e w'=>e=.returned (.int .u32 (Gm.nE G l rest))/\Below w.heap.size w w':=by
 have H1:=aA (fun(x:World) (h:Below w.heap.size w x)=>zJ v G B x (hg.below h hB) hf (Aj hB h.size));have j:=aA (fun(q:Gm.right G=true) (x:World) (h:Below w.heap.size w x)=>(show Calls _ _ _ _ (tK _ _) from(JA v G B x (hg.below h hB) hf (Aj hB h.size)).mono fun e w' k=>k.1 q));have m:=aA (fun(q:Gm.right G=true) (x:World) (h:Below w.heap.size w x)=>(show Calls _ _ _ _ (FU _ _) from(Nr v G B x (hg.below h hB) hf (Aj hB h.size)).mono fun e w' k=>k.1 q));have am:=aA (fun(z:Int) (hz:Gm.In z) (x:World) (h:Below w.heap.size w x)=>Kq v G B z hz x (hg.below h hB));obtain⟨AT,cT,AN,cN,AR,cR,rfl,_⟩:=hg;have n:=aA (One.start w #[.slice AT G.ts.length cT,.slice AN G.ns.length cN,.slice AR G.rs.length cR,.int .i64 G.st]);have HR:=aA hr;have HB:=aA hB;have aj:=aA ai;have ao:=aA aa;have HE:Hid (Gm.nE G l rest=if Gm.right G=true/\l.all (Gm.has G)=true then Gm.iN (Gm.gn false G.rs G.ns.length) (Gm.fst G) rest l else 0):=aA rfl;have ap:(l.length:Int)<=9223372036854775807:=by omega
 generalize aq:Gm.nE G l rest=r0 at *;clear aq hr hB ai hl aa hf;cases q:Gm.right G
 ·rw[q]at H1;have HX:Hid (r0=0):=aA (by rw[HE.o,q];rfl);clear q
  go_enter func51,ntmps51
  go_wp2_with fail
  refine(H1.o _ n.o.below).mono ?_;rintro _ w2 ⟨rfl,hb⟩;have ab:=aA (n.o.on hb);clear hb;go_wp2;go_ret
  exact⟨by rw[HX.o];rfl,ab.o.below⟩
 ·have j:=aA (j.o q);have m:=aA (m.o q);have ar:=aA (Gm.ft.1 q);have HQ:=aA q;rw[q]at H1;clear q
  go_enter func51,ntmps51
  go_wp2_with fail
  refine(H1.o _ n.o.below).mono ?_;rintro _ w2 ⟨rfl,hb⟩;have ab:=aA (n.o.on hb);clear hb H1 n;go_wp2;go_loopw [7] (fun vi wr=>∃k:Nat,k<=l.length/\vi=.int .i64 k/\Hid ((l.take k).all (Gm.has G)=true)/\Hid (One w #[.slice AT G.ts.length cT,.slice AN G.ns.length cN,.slice AR G.rs.length cR,.int .i64 G.st] wr)) (fun vi _=>l.length-(intOf vi).toNat)
  case atStart=>exact⟨0,AV _,rfl,aA (by simp),ab⟩
  case round =>
   clear ab;obtain⟨k,hk,rfl,HK,HW⟩:=hrel;have hd:w.heap.size<wr.heap.size:=HW.o.size;have q0:=fun y:Calm.On wr.heap.size wr=>(y.2.cell (p:=⟨w.heap.size,0,none⟩) hd).trans (HW.o.c 0 _ rfl);have q1:=fun y:Calm.On wr.heap.size wr=>(y.2.cell (p:=⟨w.heap.size,1,none⟩) hd).trans (HW.o.c 1 _ rfl);have q2:=fun y:Calm.On wr.heap.size wr=>(y.2.cell (p:=⟨w.heap.size,2,none⟩) hd).trans (HW.o.c 2 _ rfl);have q3:=fun y:Calm.On wr.heap.size wr=>(y.2.cell (p:=⟨w.heap.size,3,none⟩) hd).trans (HW.o.c 3 _ rfl);by_cases i:k<l.length
   ·obtain⟨g,o,rfl,aw,hc⟩:=(HR.o.below HW.o.below HB.o) (by omega)
    have kc:=hc k i;rw[L.fy i]at kc;have au:g<wr.heap.size:=by have:=HB.o;have:=HW.o.below.size;omega
    have k0:=fun y:Calm.On wr.heap.size wr=>(y.2.cell (p:=⟨g,o+k,none⟩) au).trans kc;have ae:=aA (fun x h=>am.o l[k] (aj.o _ (AE i)) x h);have HN:=aA (QN (p:=Gm.has G) i);have HY:=aA (fun h=>Rk (p:=Gm.has G) i h);have f:Hid (∀z,Below wr.heap.size wr z->∃q:Calm.On wr.heap.size wr,z=q.1):=aA (fun z hz=>⟨⟨z,hz⟩,rfl⟩);have HD:Hid (Below wr.heap.size wr wr.drew):=aA (aB (AB _ _) 1);clear hc kc;generalize l[k]=z at *;cases hz:Gm.has G z
    focus
     rw[hz]at ae;have HX:Hid (r0=0):=aA (by rw[HE.o,HY.o hz];simp)
    rotate_left
    focus
     rw[hz]at ae HN;have HX:=aA (HN.o.trans (by rw[HK.o]))
    rotate_left
    all_goals
     clear hz HN HY;go_upto_region 6 with fail
     refine CalmN.fk (fun x=>∃y:Calm.On wr.heap.size wr,x=y.1) (.one [0,1,2,3,4] 5 (.fin [6])) (by kernel_rfl) (by kernel_rfl) (fun _ _ d _ _ h=>by cases d <;> exact h) ⟨⟨wr.drew,HD.o⟩,rfl⟩ ?_;simp only[CalmN.fN,CalmN.fv,CalmN.fo,Az,Am,Ap];repeat (go_big_quiet_step (fail))
     refine Aw ?_;generalize wr.drew=wd at *;clear q0 q1 q2 q3 k0;intro KK b;rw[AC (by rfl)];go_wp2_with fail
     refine(ae.o wd (HW.o.on HD.o).below).mono ?_;rintro _ we ⟨rfl,hb⟩;have ac:=aA (HD.o.trans (hb.mono HD.o.size));clear hb;go_wp2_with fail
     refine b _ _ (f.o _ ac.o) _ (fun _ h=>h) (f.o _ ac.o) ?_;clear b;repeat (go_big_quiet_step (fail))
     refine Aw ?_;go_wp2
    focus
     go_ret
     exact⟨by rw[HX.o];rfl,(HW.o.on ac.o).below⟩
    focus
     go_roundw
     case rel=>exact⟨k+1,i,by go_num,HX,aA (HW.o.on ac.o)⟩
     case measure=>simp[intOf];omega
   ·obtain rfl:k=l.length:=by omega
    rw[Bn]at HK;have af:=ar.o;have HX:Hid (r0=Gm.iN (Gm.gn false G.rs G.ns.length) (Gm.fst G) rest l):=aA (by rw[HE.o,AC ⟨HQ.o,HK.o⟩]);have ag:=fun z hz=>Gm.ri af (BP.1 HK.o z hz);have ak:=aA (fun(x:World) (h:Below w.heap.size w x) (g1 g5:Nat) (r:fL x g1 (Gm.gn false G.rs G.ns.length)) (s:gK x g5 (Gm.fst G))=>Ko l rest (Gm.gn false G.rs G.ns.length) (Gm.fst G) A (some ⟨g1,0,none⟩) (some ⟨g5,0,none⟩) c G.ns.length G.ns.length B x.heap.size x.heap.size x (HR.o.below h HB.o) (r.o4 r.lt) (s.rd s.lt) aj.o (fun z hz=>(ag z hz).1) (fun z hz=>by rw[Gm.iR];exact(ag z hz).2.1) (by rw[Gm.iR,Gm.gW]) (Gm.oJ af) ao.o (by omega));rw[Gm.iR,Gm.gW]at ak;unfold tK at j;unfold FU at m;rw[Gm.gW]at j;rw[Gm.iR]at m;generalize Gm.iN (Gm.gn false G.rs G.ns.length) (Gm.fst G) rest l=vv at *;generalize Gm.gn false G.rs G.ns.length=T at *;generalize Gm.fst G=F at *;have f:Hid (∀z,Below wr.heap.size wr z->∃q:Calm.On wr.heap.size wr,z=q.1):=aA (fun z hz=>⟨⟨z,hz⟩,rfl⟩);have HD:Hid (Below wr.heap.size wr wr.drew):=aA (aB (AB _ _) 1);clear ag af;go_upto_region 8 with fail
    refine CalmN.fk (fun x=>∃y:Calm.On wr.heap.size wr,x=y.1) (.one [0,1,3,5] 2 (.one [] 4 (.one [] 6 (.fin [7])))) (by kernel_rfl) (by kernel_rfl) (fun _ _ d _ _ h=>by cases d <;> exact h) ⟨⟨wr.drew,HD.o⟩,rfl⟩ ?_;simp only[CalmN.fN,CalmN.fv,CalmN.fo,Az,Am,Ap];repeat (go_big_quiet_step (fail))
    refine Aw ?_;generalize wr.drew=wd at *;clear q0 q1 q2 q3;intro KK b;rw[AC (by rfl)];go_wp2_with fail
    refine(j.o wd (HW.o.on HD.o).below).mono ?_;rintro _ w3 ⟨g1,rfl,_,r,hb⟩;have t:=aA (HD.o.trans (hb.mono HD.o.size));have al:=aA r;clear hb r;go_wp2_with fail
    refine b _ _ (f.o _ t.o) _ (fun _ h=>h) (f.o _ t.o) ?_;clear b;refine Aw ?_;intro KK b;rw[AC (by rfl)];go_wp2_with fail
    refine(m.o w3 (HW.o.on t.o).below).mono ?_;rintro _ w4 ⟨g5,rfl,_,s,hb⟩;have ad:=aA (t.o.trans (hb.mono t.o.size));have av:=aA (ak.o w4 (HW.o.on ad.o).below g1 g5 (al.o.below hb al.o.lt) s);clear hb s;go_wp2_with fail
    refine b _ _ (f.o _ ad.o) _ (fun _ h=>h) (f.o _ ad.o) ?_;clear b;refine Aw ?_;intro KK b;rw[AC (by rfl)];go_wp2_with fail
    refine av.o.mono ?_;rintro _ w5 ⟨rfl,q,hq⟩;have ah:Hid (Below wr.heap.size wr w5):=aA (by rw[hq];exact aB ad.o q);clear hq;go_wp2_with fail
    refine b _ _ (f.o _ ah.o) _ (fun _ h=>h) (f.o _ ah.o) ?_;clear b;repeat (go_big_quiet_step (fail))
    refine Aw ?_;go_wp2;go_ret
    exact⟨by rw[HX.o];rfl,(HW.o.on ah.o).below⟩
namespace Lk
open Au Gm
theorem rO {sl:List (RW Nat)} (h:jP (sl.map (·.1))):∀r∈sl,Gm.lG r.1:=fun r hr i=>by
 obtain⟨q,hq,rfl⟩:=BF hr
 have:=h q i
 simpa[Ag,Bv,AD hq] using this
theorem zc {sl:List (RW Nat)} (h:∀r∈sl,Gm.lG r.1):jP (sl.map (·.1)):=fun q i=>by
 have e:(sl.map (·.1)).getD q []=((sl[q]?).map (·.1)).getD []:=by rw[Ag,Bv]
 rw[e];cases e:sl[q]? with
 | none=>simp
 | some r=>simpa using h r (Co e) i
theorem pd {G:Gr} (aa:Ok G) (x:It) (t:Nat) (h:x.1 = -1/\rest G x=[] \/ ∃k d:Nat,x.1=k/\x.2=d/\k<G.rs.length):nE G (rest G x) t=iN (gn false G.rs G.ns.length) (fst G) t (rest G x):=by
 rcases h with⟨_,e⟩|⟨k,d,e1,e2,hk⟩
 ·rw[e];unfold nE;rw[AC ⟨ft.2 aa,rfl⟩]
 ·have e:x=((k:Int),(d:Int)):=Ea e1 e2;rw[e,mr hk];exact KN aa (AE hk) _ _
end Lk
theorem Oi (w:World) (base gw:Nat) (g0 g1 g2 g3 lv sv:Value) (Aa:Option Addr) (ca B:Nat) (b:Bool) (G:Gm.Gr) (K:List (List Au.It)) (E:List (List (Int×Int))) (rl:List (RW Au.It)) (sl:List (RW Nat)) (q i:Nat) (h:iM w base gw g0 g1 g2 g3 (.slice Aa (K.zip E).length ca) lv sv b rl sl) (hg:aT w B (.agg #[g0,g1,g2,g3]) G) (hf:Gm.Fit G) (hB:B<=base) (hb:Gm.jE G=true) (hk:Au.lK G=some (K,E)) (ha:bW w B Aa (K.zip E)) (hL:rl.map (·.1)=Lk.fq G K) (aa:Lk.Fit (rl.map (·.1)) (sl.map (·.1))) (hu:∀r∈sl,Gm.lG r.1) (hq:q<rl.length) (hi:i<(rl[q]).1.length) :
  Calls prog 29 #[.pointer (some ⟨gw,0,none⟩),.int .i64 (q:Int),.int .i64 (i:Int)] w fun e w'=>e=.returned (.tuple #[]) /\
   ∃sl',iM w' base gw g0 g1 g2 g3 (.slice Aa (K.zip E).length ca) lv sv (b||decide (Lk.ps G (Lk.jZ K E) (rl.map (·.1)) (sl.map (·.1)) (q,i)≠sl.map (·.1))) rl sl'/\sl'.map (·.1)=Lk.ps G (Lk.jZ K E) (rl.map (·.1)) (sl.map (·.1)) (q,i)/\Below base w w'/\fT w w':=by
 have cA:sl.length=rl.length:=by have:=aa.1;simpa using this
 have f:q<sl.length:=by omega
 have ak:(sl[q]'f).1.length=(rl[q]'hq).1.length:=by
  have:=aa.2 q
  simp only[Ag,Bv,AD f,AD hq,Dm,Bp]at this;exact this
 have M:=aA h.fC;have HH:=aA h;obtain⟨gl,cl,e1,m0,b4⟩:=h.items hq;obtain⟨gs,cs,g,e2,n0,n1,n2,n3,n4,n5⟩:=h.uU f;subst e1 e2;obtain⟨gi,oi,b5,bg,bh⟩:=b4 (by omega);have e0:=bh i hi 0 (.int .i64 ((rl[q]'hq).1[i]'hi).1) rfl;have e1:=bh i hi 1 (.int .i64 ((rl[q]'hq).1[i]'hi).2) rfl;have u0:=n3.cell i (by rw[ak];exact hi);have lu:=n3.lt;have lgw:=(Ad.1 h.k).1;rw[b5]at m0;have z0:=fun z:Calm.On w.heap.size w=>rT (aC z.2 h.k);have z1:=fun z:Calm.On w.heap.size w=>xw (aC z.2 h.k);have z2:∀z:Calm.On w.heap.size w,z.1.cell? ⟨gl,q,none⟩=some (.slice (some ⟨gi,oi,none⟩) (rl[q]'hq).1.length (rl[q]'hq).2.2):=fun z=>(z.2.cell (p:=⟨gl,q,none⟩) (Cr w _ m0)).trans m0;have z3:∀z:Calm.On w.heap.size w,z.1.cell? ⟨gs,q,none⟩=some (.slice (some ⟨g,0,none⟩) (sl[q]'f).1.length (sl[q]'f).1.length):=fun z=>(z.2.cell (p:=⟨gs,q,none⟩) (Cr w _ n0)).trans n0;have z4:∀z:Calm.On w.heap.size w,z.1.cell? ⟨gi,oi+i*2,none⟩=some (.int .i64 ((rl[q]'hq).1[i]'hi).1):=fun z=>(z.2.cell (p:=⟨gi,oi+i*2,none⟩) bg).trans e0;have z5:∀z:Calm.On w.heap.size w,z.1.cell? ⟨gi,oi+i*2+1,none⟩=some (.int .i64 ((rl[q]'hq).1[i]'hi).2):=fun z=>(z.2.cell (p:=⟨gi,oi+i*2+1,none⟩) bg).trans e1;have z6:∀z:Calm.On w.heap.size w,z.1.cell? ⟨g,i,none⟩=some (.int .u32 (((sl[q]'f).1.getD i 0:Nat):Int)):=fun z=>(z.2.cell (p:=⟨g,i,none⟩) lu).trans u0;have O:=aW w
 have bi:∀r∈rl,r.1.length<=287:=fun r hr=>by
  have h1:r.1∈Lk.fq G K:=by rw[<-hL];exact DK hr
  obtain⟨k,_,e⟩:=Bm.1 h1;have b6:=Gm.ft.1 (Gm.fY hb);rw[<-e];exact Au.kU b6 b6.kz _
 have cB:=bi _ (AE hq);have df:((q:Nat):Int)<((rl.length:Nat):Int):=by omega
 have cC:((q:Nat):Int)<((sl.length:Nat):Int):=by omega
 have dg:((i:Nat):Int)<(((rl[q]'hq).1.length:Nat):Int):=by omega
 have cD:((i:Nat):Int)<(((sl[q]'f).1.length:Nat):Int):=by omega
 have cE:(((rl[q]'hq).1.length:Nat):Int)<=287:=by omega
 have cF:rl.length<=300:=by
  have:rl.length=K.length:=by have:=congrArg List.length hL;simpa[Lk.fq] using this
  have:=(Au.ji hk).2.2
  omega
 have cG:((rl.length:Nat):Int)<=300:=by omega
 obtain⟨x,hx⟩:∃x,x=(rl[q]'hq).1[i]'hi:=⟨_,rfl⟩
 obtain⟨t,ht⟩:∃t,t=(sl[q]'f).1.getD i 0:=⟨_,rfl⟩
 have HX:=aA hx;have HT:=aA ht;rw[<-hx]at z4 z5;rw[<-ht]at z6;have HQ:=aA (BD hq (BD f hi));have b7:=aA bi;have HU:=aA hu;have ab:=aA aa;have HL:=aA hL;have bj:=aA hg;have a1:=aA hf;have U:=aA hB;have b9:=aA hb;have cH:=aA hk;have cI:=aA ha;clear h e0 e1 u0 lu lgw b4 bh b5 bg m0 n0 n1 n2 n3 n4 n5 hx ht bi hu aa hL hg hf hB hb hk ha cB ak cA cF;have al:Hid (((rl.map (·.1)).getD q [])[i]?=some x):=aA (by rw[HX.o];simp[Ag,AD HQ.o.1,AD hi]);have ah:Hid (((sl.map (·.1)).getD q []).getD i 0=t):=aA (by rw[HT.o];simp[Ag,AD f]);have cJ:Hid (q<rl.length):=aA hq;clear HX HT HQ;generalize (rl[q]'hq).2.2=cq at *;generalize cK:(rl[q]'hq).1.length=nq at *;generalize (sl[q]'f).1.length=mq at *;clear cK;clear hi;clear hq f;obtain⟨nz,bk⟩:∃n,n=(K.zip E).length:=⟨_,rfl⟩
 rw[<-bk]at HH ⊢;have cL:=aA bk;clear bk
 go_enter func29,ntmps29
 go_wp2_with fail
 refine CalmN.fk (fun x=>∃z:Calm.On w.heap.size w,x=z.1) (.one [0,1,2,3,4,5,6,7,8,9,10,11,12,13,14,15,16,17,18,19] 20 (.one [] 21 (.fin [22]))) (by kernel_rfl) (by kernel_rfl) (fun _ _ d _ _ h=>by cases d <;> exact h) O.o ?_;simp only[CalmN.fN,CalmN.fv,CalmN.fo,Az,Am,Ap];repeat (go_big_quiet_step (fail))
 refine Aw ?_;intro KK v;rw[AC (by rfl)];go_wp2_with fail
 have bl:Hid (∃z:Calm.On w.heap.size w,(w.alloc (.cells #[.int .i64 0,.int .i64 0] 60)).drew=z.1):=aA ⟨⟨_,aB ((AB w.heap.size w).alloc (Af _) (.cells #[.int .i64 0,.int .i64 0] 60)) 1⟩,rfl⟩;refine v _ _ bl.o _ (fun _ h=>h) bl.o ?_;clear v;repeat (go_big_quiet_step (fail))
 refine Aw ?_;intro KK v;rw[AC (by rfl)];go_wp2_with fail
 have am:Hid (Below w.heap.size w (w.alloc (.cells #[.int .i64 x.1,.int .i64 x.2] 60)).drew):=aA (aB ((AB w.heap.size w).alloc (Af _) (.cells #[.int .i64 x.1,.int .i64 x.2] 60)) 1);have a2:Hid ((w.alloc (.cells #[.int .i64 x.1,.int .i64 x.2] 60)).drew.heap[w.heap.size]?=some (.cells #[.int .i64 x.1,.int .i64 x.2] 60 (0,0))):=aA (AG w _);have bm:Hid (∃z:Calm.On w.heap.size w,(w.alloc (.cells #[.int .i64 x.1,.int .i64 x.2] 60)).drew=z.1):=aA ⟨⟨_,am.o⟩,rfl⟩;refine v _ _ bm.o _ (fun _ h=>h) bm.o ?_;clear v;repeat (go_big_quiet_step (fail))
 refine Aw ?_;clear bl bm O z0 z1 z2 z3 z4 z5 z6;generalize (w.alloc (.cells #[.int .i64 x.1,.int .i64 x.2] 60)).drew=w1 at *;have ao:Hid (x∈(Lk.fq G K).getD q []):=aA (by rw[<-HL.o];exact Co al.o);have a3:Hid (Au.gj G x=true):=aA (Au.jR (Lk.iW ao.o).2);have J:Au.kD G x=Au.nx G x:=by unfold Au.kD;rw[AC (Gm.fY b9.o),Au.oT a3.o]
 have bo:=aA (fun(y:World) (hy:Below w.heap.size w y)=>J1 (.agg #[g0,g1,g2,g3]) G B x y (bj.o.below hy (Aj U.o M.o)) a1.o (Aj (Aj U.o M.o) hy.size));rw[J]at bo;clear J;have Z:=aA (HH.o.below am.o);have lgw:=(Ad.1 Z.o.k).1;have y0:=fun z:Calm.On w1.heap.size w1=>aS (aC z.2 Z.o.k);have y1:=fun z:Calm.On w1.heap.size w1=>aX (aC z.2 Z.o.k);have y2:=fun z:Calm.On w1.heap.size w1=>aY (aC z.2 Z.o.k);have y3:=fun z:Calm.On w1.heap.size w1=>bI (aC z.2 Z.o.k);have y4:=fun z:Calm.On w1.heap.size w1=>aS (aC z.2 a2.o);have y5:=fun z:Calm.On w1.heap.size w1=>aX (aC z.2 a2.o);have O:=aW w1;clear lgw;go_wp2_with fail
 refine CalmN.fk (fun x=>∃z:Calm.On w1.heap.size w1,x=z.1) (.one [0,1,2,3,4] 5 (.fin [6,7,8,9,10])) (by kernel_rfl) (by kernel_rfl) (fun _ _ d _ _ h=>by cases d <;> exact h) O.o ?_;simp only[CalmN.fN,CalmN.fv,CalmN.fo,Az,Am,Ap];repeat (go_big_quiet_step (fail))
 refine Aw ?_;intro KK v;rw[AC (by rfl)];go_wp2_with fail
 refine(bo.o w1.drew (aB am.o 1)).mono ?_;rintro _ w2 ⟨rfl,cb⟩;have a4:Hid (Below w1.heap.size w1 w2):=aA ((aB (AB _ w1) 1).trans cb);have N:=qP a4.o;have ai:=aA (Z.o.below a4.o);have cc:=aA (aC a4.o a2.o);have V:=aA (am.o.trans (a4.o.mono am.o.size));clear cb y0 y1 y2 y3 y4 y5 O bo Z a2;cases J:Au.nx G x with
 | none =>
  have D:Hid (Lk.ps G (Lk.jZ K E) (rl.map (·.1)) (sl.map (·.1)) (q,i)=sl.map (·.1)):=aA (by unfold Lk.ps;simp only[al.o,J]);clear J;go_wp2_with fail
  refine v _ _ N.o _ (fun _ h=>h) N.o ?_;clear v;repeat (go_big_quiet_step (fail))
  refine Aw ?_;clear N;go_wp2
  (try simp only[Exit.inBlock,Exit.then]);refine B8 (results_none rfl _ _ _) rfl ?_
  exact⟨rfl,sl,by rw[D.o,AM (fun k=>k rfl),ER];exact ai.o,D.o.symm,V.o.mono M.o,fT.below V.o⟩
 | some s =>
  by_cases a5:t=0
  ·have D:Hid (Lk.ps G (Lk.jZ K E) (rl.map (·.1)) (sl.map (·.1)) (q,i)=sl.map (·.1)):=aA (by
    unfold Lk.ps;simp only[al.o,J];rw[AC (by rw[ah.o];exact a5)])
   subst a5;clear J;go_wp2_with fail
   refine v _ _ N.o _ (fun _ h=>h) N.o ?_;clear v;repeat (go_big_quiet_step (fail))
   refine Aw ?_;clear N;go_wp2
   (try simp only[Exit.inBlock,Exit.then]);refine B8 (results_none rfl _ _ _) rfl ?_
   exact⟨rfl,sl,by rw[D.o,AM (fun k=>k rfl),ER];exact ai.o,D.o.symm,V.o.mono M.o,fT.below V.o⟩
  ·have dh:(((t:Nat):Int)==0)=false:=by rw[Ba];omega
   go_wp2_with fail
   refine v _ _ N.o _ (fun _ h=>h) N.o ?_;clear v;repeat (go_big_quiet_step (fail))
   refine Aw ?_;clear N;have F:=aA (Gm.ft.1 (Gm.fY b9.o));have ac:=aA (Au.ji cH.o);have bp:=aA (Lk.za ac.o.1 ac.o.2.1 F.o ao.o J);have bq:Hid (rl.length=K.length):=aA (by have:=congrArg List.length HL.o;simpa[Lk.fq] using this)
   have cM:Hid (∀y∈K.zip E,y.2.length<=64):=aA (fun y hy=>by
    obtain⟨m,hm,e⟩:=BF (List.of_mem_zip hy).2;rw[<-e];exact Au.pO ((Gm.fZ G.ts).1 F.o.t).1 (by have:=((Gm.fG G).1 F.o.n).2.1;omega) ac.o.1 hm)
   have cO:Hid ((K.zip E).length<=300):=aA (by rw[List.length_zip];have:=ac.o.2.2;omega);have H:=aA J;have a6:=Au.fW.1 a3.o;have cP:=Au.nY F.o (Au.jk.2 ⟨a6.1.1,a6.1.2⟩);have br:0<=x.2:=a6.2.1;have bs:x.2<=6:=by omega
   have cQ:IntKind.i64.wrap (x.2+1)=x.2+1:=B3 _ (by omega);clear a6 cP J
   have ap:Hid (t<4294967296):=aA (by
    rw[<-ah.o];rcases Bx q sl.length with k|k
    ·have:=HU.o _ (AE k) i
     simpa[Ag,AD k] using this
    ·have e:(sl.map (·.1)).getD q []=[]:=by rw[Ag,BH (by simpa using k)];rfl
     rw[e]
     simp)
   obtain⟨j,hj⟩:∃j,j=Lk.jZ K E q s:=⟨_,rfl⟩
   have HJ:=aA hj;rw[<-hj]at bp;clear hj;have cS:Hid (j<rl.length):=aA (by rw[bq.o];exact bp.o.1);have bu:B<=w2.heap.size:=Aj (Aj U.o M.o) V.o.size
   have cd:Hid (Calls prog 50 #[.slice Aa nz ca,.int .i64 q,.slice (some ⟨w2.heap.size,0,none⟩) 1 1] (w2.alloc (.cells #[.int .i64 s] 3)) fun e w'=>e=.returned (.tuple #[.int .i64 (j:Int),.bool true])/\Below w2.heap.size w2 w'):=aA (by
    have a9:Below w2.heap.size w2 (w2.alloc (tR [s])):=(AB _ _).alloc (Af _) _;have hw:=Nf (K.zip E) Aa ca B q [s] (some ⟨w2.heap.size,0,none⟩) 1 (w2.alloc (tR [s])).heap.size (w2.alloc (tR [s])) ((cI.o.below V.o (Aj U.o M.o)).below a9 bu) (Aj bu a9.size) (by have:=cO.o;omega) (fun y hy=>by have:=cM.o y hy;omega) (zY w2 [s]).1 (Af _) (by simp);rw[bp.o.2,<-cL.o]at hw;exact hw.mono fun e w' k=>⟨k.1,a9.trans (k.2.mono a9.size)⟩)
   have c4:=rU ai.o.k;have lgw:gw<w2.heap.size:=(Ad.1 ai.o.k).1;clear bu;go_wp2_with fail
   refine cd.o.mono ?_;rintro _ w3 ⟨rfl,ce⟩;have bv:Hid (Below w2.heap.size w2 w3):=aA ce;have cf:=aA (ai.o.below bv.o);have aq:=aA (aC bv.o cc.o);have bw:=aA (V.o.trans (bv.o.mono V.o.size));clear ce c4 lgw cd ai cc;have e0:=aS aq.o;have e1:=aX aq.o;have le:w.heap.size<w3.heap.size:=(Ad.1 aq.o).1;have ad:=aA (show Calls prog 27 #[.pointer (some ⟨gw,0,none⟩),.int .i64 (j:Int),.agg #[.int .i64 x.1,.int .i64 (x.2+1)],.int .u32 (t:Int)] w3 _ from Ik w3 base gw g0 g1 g2 g3 _ _ _ b rl sl j (x.1,x.2+1) t cf.o ab.o cS.o ap.o HU.o (fun r hr=>by have:=b7.o r hr;omega));go_wp2_with fail
   refine ad.o.mono ?_;rintro _ w4 ⟨rfl,sl1,cg,ch,ci,bx⟩;clear e0 e1 le ad;have ba:=aA cg;have bz:=aA ch;have ar:=aA ((bw.o.mono M.o).trans ci);have au:=aA ((fT.below bw.o).trans bx);have av:=aA (bx.fp _ _ _ _ aq.o (by decide) (by decide));clear cg ch ci bx cf aq bw;by_cases bD:0<=s
   ·have D:Hid (Lk.ps G (Lk.jZ K E) (rl.map (·.1)) (sl.map (·.1)) (q,i)=Lk.gv (rl.map (·.1)) (sl.map (·.1)) j (x.1,x.2+1) t):=aA (by
     unfold Lk.ps;simp only[al.o,H.o];rw[AI (by rw[ah.o];exact a5),AC bD,ah.o,HJ.o])
    go_wp2
    (try simp only[Exit.inBlock,Exit.then]);refine B8 (results_none rfl _ _ _) rfl ?_
    exact⟨rfl,sl1,by rw[D.o];exact ba.o,by rw[D.o];exact bz.o,ar.o,au.o⟩
   ·have cU:Hid (-17<s/\s<0):=aA (by
     have h1:=Gm.iS.1 (Au.iZ.1 (Au.qc F.o a3.o H.o))
     have:=((Gm.fG G).1 F.o.n).2.1
     have:=h1.2
     omega)
    obtain⟨AT,cT,AN,cN,AR,cR,A,_,_,_,hT,hN,hR⟩:=id bj.o;injection A with A;have A:=congrArg Array.toList A;injection A with q0 A;injection A with q1 A;injection A with q2 A;injection A with q3 _;subst q0 q1 q2 q3;obtain⟨gR,oR,rfl,cj,hc⟩:=hR (by have:=F.o.r1;omega);have HC:=aA hc;have ck:Hid (gR<base):=aA (Ah cj U.o);have bb:=aA (Au.fW.1 a3.o);have aw:=aA F.o.kz;have ax:=aA (bj.o.below ar.o U.o);have I:Hid (B<=w4.heap.size):=aA (Aj (Aj U.o M.o) au.o.size);clear A hT hN hR hc cj cQ br bs
    have D:Hid (Lk.ps G (Lk.jZ K E) (rl.map (·.1)) (sl.map (·.1)) (q,i)=(List.range G.rs.length).foldl (Lk.lS G (rl.map (·.1)) q s (Gm.iN (Gm.gn false G.rs G.ns.length) (Gm.fst G) t (Au.rest G x))) (Lk.gv (rl.map (·.1)) (sl.map (·.1)) j (x.1,x.2+1) t)):=aA (by
     unfold Lk.ps;simp only[al.o,H.o];rw[AI (by rw[ah.o];exact a5),AI bD,ah.o,HJ.o])
    have di:decide (0<=s)=false:=AM bD;have bM:=aA (fun y (h:Below w4.heap.size w4 y)=>aC h av.o);by_cases cm:0<=x.1
    focus
     obtain⟨k,hk⟩:∃k:Nat,x.1=k:=⟨x.1.toNat,by omega⟩
     obtain⟨d,hd⟩:∃d:Nat,x.2=d:=⟨x.2.toNat,by have:=bb.o;omega⟩
     have ae:k<G.rs.length:=by have:=bb.o;omega
     have ay:x=((k:Int),(d:Int)):=Ea hk hd;have bT:=aA (Lk.pd F.o x t (.inr ⟨k,d,hk,hd,ae⟩));have C:Au.rest G x=(G.rs[k]).r.drop (d+1):=by rw[ay];exact Lk.mr ae
     have cV:d<(G.rs[k]).r.length:=by obtain⟨h,_⟩:=Lk.nO ae (by have:=H.o;rwa [ay]at this);exact h
     obtain⟨-,⟨A',c',k1,cn,-,co⟩,-⟩:=HC.o k ae;have cp:=aA (a1.o.r _ (AE ae));have cW:=(Gm.fJ (F.o.rr _ (AE ae))).1;have aj:=aA (fun(y:World) (h:Below w4.heap.size w4 y)=>KE _ G (Au.rest G x) t (fU A' c' (d+1)) (c'-(d+1)) B y (ax.o.below h I.o) a1.o (Aj I.o h.size) (by rw[C];exact((co.below ar.o U.o).fU cn (d+1)).below h I.o) (fun z hz=>by rw[C]at hz;exact cp.o.2.2 z (CV hz)) (by rw[C,Bl];omega) ap.o);rw[show(Au.rest G x).length=(G.rs[k]).r.length-(d+1) by rw[C,Bl]]at aj;have e0:w4.cell? ⟨w.heap.size,0,none⟩=some (.int .i64 (k:Int)):=by rw[<-hk];exact aS av.o
     have e1:w4.cell? ⟨w.heap.size,1,none⟩=some (.int .i64 (d:Int)):=by rw[<-hd];exact aX av.o
     have cr:((k:Nat):Int)<((G.rs.length:Nat):Int):=by omega
     have cX:((G.rs.length:Nat):Int)<=40:=by have:=aw.o;omega
     have k1:=(ar.o.cell (p:=⟨gR,oR+k*3+1,none⟩) ck.o).trans k1;generalize (G.rs[k]).r.length=nr at *;obtain⟨m,hm⟩:∃m,d+1=m:=⟨_,rfl⟩
     have bX:IntKind.i64.wrap (((d:Nat):Int)+1)=((m:Nat):Int):=by rw[B3 _ (by omega)];omega
     have SL:=fun w=>Ju w A' c' nr m (by omega);rw[hm]at aj;have c2:=aY ba.o.k;have z0:∀z:Calm.On w4.heap.size w4,z.1.cell? ⟨gw,2,none⟩=some (.slice (some ⟨gR,oR,none⟩) G.rs.length cR):=fun z=>(z.2.cell (p:=⟨gw,2,none⟩) (Cr _ _ c2)).trans c2;have z1:∀z:Calm.On w4.heap.size w4,z.1.cell? ⟨w.heap.size,0,none⟩=some (.int .i64 (k:Int)):=fun z=>(z.2.cell (p:=⟨w.heap.size,0,none⟩) (Cr _ _ e0)).trans e0;have z2:∀z:Calm.On w4.heap.size w4,z.1.cell? ⟨w.heap.size,1,none⟩=some (.int .i64 (d:Int)):=fun z=>(z.2.cell (p:=⟨w.heap.size,1,none⟩) (Cr _ _ e1)).trans e1;have z3:∀z:Calm.On w4.heap.size w4,z.1.cell? ⟨gR,oR+k*3+1,none⟩=some (.slice A' nr c'):=fun z=>(z.2.cell (p:=⟨gR,oR+k*3+1,none⟩) (Cr _ _ k1)).trans k1;have O:=aW w4;have dj:decide ((0:Int)<=(k:Int))=true:=AQ (by omega);have X:Hid (Below w4.heap.size w4 w4.drew):=aA (aB (AB _ _) 1);clear hk hd ay C cV cn co cW hm cp ae cm c2 k1;go_upto_region 8 with fail
     clear e1;refine CalmN.fk (fun x=>∃z:Calm.On w4.heap.size w4,x=z.1) (.fin [0,1,2,3,4,5,6,7,8,9,10,11,12,13,14]) (by kernel_rfl) (by kernel_rfl) (fun _ _ d _ _ h=>by cases d <;> exact h) O.o ?_;simp only[CalmN.fN,CalmN.fo,Az,Am,Ap];repeat (go_big_quiet_step (fail))
     refine Aw ?_;clear z0 z1 z2 z3 O SL e0 cr bX;generalize w4.drew=wv at *
    rotate_left
    focus
     have bc:x.1 = -1:=by have:=bb.o;omega
     obtain⟨ay,-,C⟩:=Lk.lA bc bb.o.2.1 H.o;have bT:=aA (Lk.pd F.o x t (.inl ⟨bc,C⟩));have aj:=aA (fun(y:World) (h:Below w4.heap.size w4 y)=>KE _ G (Au.rest G x) t none 0 B y (ax.o.below h I.o) a1.o (Aj I.o h.size) (by rw[C];exact fun h=>absurd rfl h) (fun z hz=>by rw[C]at hz;cases hz) (by rw[C];exact AV _) ap.o);rw[show(Au.rest G x).length=0 by rw[C];rfl]at aj;have e0:w4.cell? ⟨w.heap.size,0,none⟩=some (.int .i64 (-1)):=by rw[<-bc];exact aS av.o
     have X:Hid (Below w4.heap.size w4 w4):=aA (AB _ _);clear bc ay C cm;go_upto_region 9 with fail
     clear e0;obtain⟨wv,b0⟩:∃y,y=w4:=⟨_,rfl⟩
     have X:Hid (Below w4.heap.size w4 wv):=aA (by rw[b0];exact AB _ _);rw[<-b0];clear b0
    all_goals
     have af:=aA (ba.o.below X.o);have c0:=aS af.o.k;have c1:=aX af.o.k;have c2:=aY af.o.k;have c3:=bI af.o.k;have lgw:=(Ad.1 af.o.k).1;have HO:=aj.o wv X.o;rw[bT.o]at HO;have az:=Gm.oU (G:=G) (Au.rest G x) ap.o;rw[bT.o]at az;generalize Gm.iN (Gm.gn false G.rs G.ns.length) (Gm.fst G) t (Au.rest G x)=u at *;have az:=aA az;have HO:=aA HO;go_wp2_with fail
     refine HO.o.mono ?_;rintro _ w5 ⟨rfl,bd⟩;have cu:Hid (Below base w w5):=aA (ar.o.trans ((X.o.trans (bd.mono X.o.size)).mono (Aj M.o au.o.size)));have cv:=aA (af.o.below bd);have cw:=aA (au.o.trans ((fT.below X.o).trans (fT.below bd)));have cx:=aA (Lk.jD ab.o j (x.1,x.2+1) t);have cY:=aA (Lk.mP ab.o (Lk.zc HU.o) ap.o j (x.1,x.2+1));have cZ:=aA (Lk.nL ab.o j (x.1,x.2+1) t);clear bd HO aj ba af au av bM X c0 c1 c2 c3 lgw;generalize Lk.gv (rl.map (·.1)) (sl.map (·.1)) j (x.1,x.2+1) t=S1 at *;go_wp2;go_loopw [13] (fun vi wr=>∃(k:Nat) (sl2:List (RW Nat)),k<=G.rs.length/\vi=.int .i64 k/\Hid (iM wr base gw (.slice AT G.ts.length cT) (.slice AN G.ns.length cN) (.slice (some ⟨gR,oR,none⟩) G.rs.length cR) (.int .i64 G.st) (.slice Aa nz ca) (.slice (some ⟨gl,0,none⟩) rl.length cl) (.slice (some ⟨gs,0,none⟩) sl.length cs) (b||decide ((List.range k).foldl (Lk.lS G (rl.map (·.1)) q s u) S1≠sl.map (·.1))) rl sl2)/\Hid (sl2.map (·.1)=(List.range k).foldl (Lk.lS G (rl.map (·.1)) q s u) S1)/\Hid (Below base w wr)/\Hid (fT w wr)) (fun vi _=>G.rs.length-(intOf vi).toNat)
     case atStart=>exact⟨0,sl1,AV _,rfl,cv,bz,cu,cw⟩
     case round =>
      clear cv bz cu cw;obtain⟨k,sl2,hk,rfl,HA,HM,HB,HK⟩:=hrel;rename World=>wr;have c2:=aY HA.o.k;have cX:((G.rs.length:Nat):Int)<=40:=by have:=aw.o;omega
      by_cases a0:k<G.rs.length
      ·have cr:((k:Nat):Int)<((G.rs.length:Nat):Int):=by omega
       have k0:=(HB.o.cell (p:=⟨gR,oR+k*3,none⟩) ck.o).trans (HC.o k a0).1;have b1:=aA (Lk.uf (G:=G) cx.o q s u k);have c5:=aA (Lk.mM (G:=G) az.o q s (List.range k) S1 cx.o cY.o);have ag:=aA (Lk.sX (G:=G) (L:=rl.map (·.1)) S1 q s u k);have c6:Hid ((G.rs.getD k ⟨0,[],0⟩).l=(G.rs[k]).l):=aA (by rw[Ag,AD a0];rfl);have bf:=aA a0;have dk:IntKind.i64.wrap (-1-s) = -1-s:=B3 _ (by have:=cU.o;omega);generalize (G.rs[k]'a0).l=lf at *;clear a0;have c7:Hid (Lk.lS G (rl.map (·.1)) q s u ((List.range k).foldl (Lk.lS G (rl.map (·.1)) q s u) S1) k=if lf = -1-s then Lk.gv (rl.map (·.1)) ((List.range k).foldl (Lk.lS G (rl.map (·.1)) q s u) S1) q ((k:Int),0) u else(List.range k).foldl (Lk.lS G (rl.map (·.1)) q s u) S1):=aA (by unfold Lk.lS;rw[c6.o]);rw[c7.o]at ag;by_cases he:lf = -1-s
       ·have c8:(lf == -1-s)=true:=by rw[BJ];exact he
        rw[AC he]at ag;have ad:=aA (Ik wr base gw _ _ _ _ _ _ _ _ rl sl2 q ((k:Int),0) u HA.o (by rw[HM.o];exact b1.o.1) cJ.o az.o (Lk.rO (by rw[HM.o];exact c5.o)) (fun r hr=>by have:=b7.o r hr;omega));rw[HM.o]at ad;have c9:lI ((k:Int),0)=.agg #[.int .i64 k,.int .i64 0]:=rfl;rw[c9]at ad;go_wp2_with fail
        refine ad.o.mono ?_;rintro _ w7 ⟨rfl,sl3,b2,b3,cy,cz⟩;rw[Bool.or_assoc,Lk.sA (cZ.o.trans b1.o.2) (Lk.nL b1.o.1 _ _ _),<-ag.o]at b2;rw[<-ag.o]at b3;have da:=aA b2;have db:=aA b3;have dc:=aA (HB.o.trans cy);have de:=aA (HK.o.trans cz);clear b2 b3 cy cz ad;go_wp2;go_roundw
        case rel=>exact⟨k+1,sl3,bf.o,by go_num,da,db,dc,de⟩
        case measure=>simp[intOf];have:=bf.o;omega
       ·have c8:(lf == -1-s)=false:=by rw[Ba];exact he
        rw[AI he]at ag;go_wp2;go_roundw
        case rel=>exact⟨k+1,sl2,bf.o,by go_num,by rw[ag.o];exact HA,by rw[ag.o];exact HM,HB,HK⟩
        case measure=>simp[intOf];have:=bf.o;omega
      ·obtain rfl:k=G.rs.length:=by omega
       go_wp2;go_end0
       exact⟨rfl,sl2,by rw[D.o];exact HA.o,by rw[D.o];exact HM.o,HB.o,HK.o⟩
namespace Lk
open Au Gm
section
variable {G:Gr} {K:List (List It)} {E:List (List (Int×Int))}
theorem Rq (aa:Ok G) {x:It} (hi:gj G x=true) (hs:nx G x=some s) (t:Nat):nE G (rest G x) t=iN (gn false G.rs G.ns.length) (fst G) t (rest G x):=by
 have h:=fW.1 hi;refine pd aa x t ?_;by_cases h0:0<=x.1
 ·exact .inr ⟨x.1.toNat,x.2.toNat,by omega,by omega,by omega⟩
 ·exact .inl ⟨by omega,(lA (by omega) h.2.1 hs).2.2⟩
theorem Sl (aa:Ok G) {tw:Nat->Int->Nat} {S:SS} (hf:Fit (fq G K) S) (hu:jP S) (p:Nat×Nat):jP (ps G tw (fq G K) S p):=by
 unfold ps;split
 ·exact hu
 ·rename_i x hx
  have hi:gj G x=true:=jR (iW (Co hx)).2;split
  ·exact hu
  ·rename_i s hs
   split
   ·exact hu
   ·have ht:(S.getD p.1 []).getD p.2 0<4294967296:=hu p.1 p.2;split
    ·exact mP hf hu ht _ _
    ·rw[<-Rq aa hi hs];exact mM (oU _ ht) _ _ _ _ (jD hf _ _ _) (mP hf hu ht _ _)
structure ov (G:Gr) (K:List (List It)) (E:List (List (Int×Int))) (S0 S:SS):Prop where
 r:ou G K E S
 u:jP S
 l:mb S0 S
theorem ov.ps {S0 S:SS} (h:ov G K E S0 S) (hi:Inv G K E) (hE:E.length=K.length) (aa:Ok G) (p:Nat×Nat):ov G K E S0 (Lk.ps G (jZ K E) (fq G K) S p) :=
 ⟨h.r.ps hi hE aa p,Sl aa h.r.f h.u p,h.l.trans (sF S p h.r.f).2⟩
theorem ov.all {S0:SS} (hi:Inv G K E) (hE:E.length=K.length) (aa:Ok G):∀(l:List (Nat×Nat)) (S:SS),ov G K E S0 S->ov G K E S0 (l.foldl (Lk.ps G (jZ K E) (fq G K)) S)
 | [],_,h=>h
 | p::l,_,h=>ov.all hi hE aa l _ (h.ps hi hE aa p)
theorem ou.still {S:SS} (h:ou G K E S) (e:(rC (fq G K)).foldl (Lk.ps G (jZ K E) (fq G K)) S=S):∀p∈rC (fq G K),Lk.ps G (jZ K E) (fq G K) S p=S :=
 H8 (I:=Fit (fq G K)) (fun s p hs=>sF s p hs) _ S h.f e
end
def iP (L:List (List It)) (i k:Nat):List (Nat×Nat):=((List.range i).flatMap fun q=>(List.range (L.getD q []).length).map fun j=>(q,j))++(List.range k).map fun j=>(i,j)
theorem rD (L:List (List It)) (i k:Nat):iP L i (k+1)=iP L i k++[(i,k)]:=by
 unfold iP;rw[CH,Bf,Ci];rfl
theorem th (L:List (List It)) (i:Nat):iP L i (L.getD i []).length=iP L (i+1) 0:=by
 unfold iP;rw[CH,B4];simp
theorem tg (L:List (List It)):iP L L.length 0=rC L:=by
 unfold iP rC;simp
theorem yk {G:Gr} {K:List (List It)} (hi:Inv G K E):pI G (fq G K)≠j5 (fq G K):=fun e=>by
 have h:=(GP hi).2.2;rw[e]at h;obtain⟨i,_,h2⟩:=h;rw[GA,IU,C4]at h2;cases h2
end Lk
section
variable {w w':World} {base gw:Nat} {g0 g1 g2 g3 av lv sv:Value} {b:Bool} {rl:List (RW Au.It)} {sl:List (RW Nat)}
theorem iM.Hl (h:iM w base gw g0 g1 g2 g3 av lv sv b rl sl) {lv':Value} {r:RW Au.It} (ho:aJ 52 1 je w' base lv' (rl++[r])) (hg:w.grownBy w' lv.ownBlock) (hr:bO 60 2 fO w' 0 w'.heap.size r):iM (w'.setCell ⟨gw,5,none⟩ lv') base gw g0 g1 g2 g3 av lv' sv b (rl++[r]) sl:=by
 have hk:=aH h.l hg h.k (fun cur=>aG (by decide));have hz:(w'.setCell ⟨gw,5,none⟩ lv').heap.size=w'.heap.size:=by simp
 have aa:∀(g:Nat) (o:Obj),w'.heap[g]?=some o->(∀cs,o ≠ .cells cs 76 (0,0))->(w'.setCell ⟨gw,5,none⟩ lv').heap[g]?=some o:=fun g o hc hn=>(AU _ _ _ _ (fun e=>by
  have e:g=gw:=e;rw[e,hk]at hc;injection hc with hc;exact hn _ hc.symm)).trans hc
 refine⟨AZ w' gw 5 _ _ _ hk,AO ho (aF (AJ _ _) 5 _) (aR ho hk fun cur=>aG (by decide)),fun x hx=>?_,AO (AO h.s hg (aP h.s h.l (by decide))) (aF (AJ _ _) 5 _) (aR (AO h.s hg (aP h.s h.l (by decide))) hk fun cur=>aG (by decide)),fun i hi=>?_,h.nd,h.hb⟩
 ·rw[hz];rcases Bt.1 hx with hx|hx
  ·exact((h.lr x hx).fp fun g cur _ _ h2=>aa g _ (aH h.l hg h2 fun c=>aG (by decide)) fun cs=>aG (by decide)).more hg.size
  ·rw[AP.1 hx];exact hr.fp fun g cur _ _ h2=>aa g _ h2 fun cs=>aG (by decide)
 ·obtain⟨g,h1,h2,h3,h4⟩:=h.sr i hi;refine⟨g,h1,h2,h3,?_⟩;unfold gK iA at h4 ⊢;exact aa g _ (aH h.l hg h4 fun c=>aG (by decide)) fun cs=>aG (by decide)
theorem iM.Hm (h:iM w base gw g0 g1 g2 g3 av lv sv b rl sl) {sv':Value} {row:List Nat} (ab:row.length=n) (ho:aJ 41 1 je w' base sv' (sl++[((row,some ⟨g,0,none⟩,n):RW Nat)])) (hg:w.grownBy w' sv.ownBlock) (hb:base<=g) (hu:gK w g row) (hn:∀i (hi:i<sl.length),sl[i].2.1≠some ⟨g,0,none⟩):iM (w'.setCell ⟨gw,6,none⟩ sv') base gw g0 g1 g2 g3 av lv sv' b rl (sl++[((row,some ⟨g,0,none⟩,n):RW Nat)]):=by
 have hk:=aH h.s hg h.k (fun cur=>aG (by decide));have hz:(w'.setCell ⟨gw,6,none⟩ sv').heap.size=w'.heap.size:=by simp
 have aa:∀(g:Nat) (o:Obj),w.heap[g]?=some o->(∀cs,o ≠ .cells cs 76 (0,0))->(∀cs,o ≠ .cells cs 41 (0,0))->(w'.setCell ⟨gw,6,none⟩ sv').heap[g]?=some o:=fun g o hc hn ac=>(AU _ _ _ _ (fun e=>by
  have e:g=gw:=e;rw[e,h.k]at hc;injection hc with hc;exact hn _ hc.symm)).trans (aH h.s hg hc ac)
 refine⟨AZ w' gw 6 _ _ _ hk,AO (AO h.l hg (aP h.l h.s (by decide))) (aF (AJ _ _) 6 _) (aR (AO h.l hg (aP h.l h.s (by decide))) hk fun cur=>aG (by decide)),fun x hx=>?_,AO ho (aF (AJ _ _) 6 _) (aR ho hk fun cur=>aG (by decide)),fun i hi=>?_,fun i j hi hj ad=>?_,h.hb⟩
 ·rw[hz];exact((h.lr x hx).fp fun g cur _ _ h2=>aa g _ h2 (fun cs=>aG (by decide)) fun cs=>aG (by decide)).more hg.size
 ·rcases Bx i sl.length with k|k
  ·rw[B6 k];obtain⟨g',h1,h2,h3,h4⟩:=h.sr i k;refine⟨g',h1,h2,h3,?_⟩;unfold gK iA at h4 ⊢;exact aa g' _ h4 (fun cs=>aG (by decide)) fun cs=>aG (by decide)
  ·have e:i=sl.length:=by rw[AW,BA]at hi;omega
   subst e;rw[Ct (Af _)];refine⟨g,by simp,hb,by simp[ab],?_⟩;simp only[Dg,List.getElem_cons_zero];unfold gK iA at hu ⊢;exact aa g _ hu (fun cs=>aG (by decide)) fun cs=>aG (by decide)
 ·have hp:∀m (hm:m<(sl++[((row,some ⟨g,0,none⟩,n):RW Nat)]).length),(∃ae:m<sl.length,(sl++[((row,some ⟨g,0,none⟩,n):RW Nat)])[m].2.1=sl[m].2.1)\/m=sl.length/\(sl++[((row,some ⟨g,0,none⟩,n):RW Nat)])[m].2.1=some ⟨g,0,none⟩:=fun m hm=>by
   rcases Bx m sl.length with k|k
   ·exact .inl ⟨k,by rw[B6 k]⟩
   ·have e:m=sl.length:=by rw[AW,BA]at hm;omega
    subst e;refine .inr ⟨rfl,?_⟩;rw[Ct (Af _)];simp only[Dg,List.getElem_cons_zero]
  rcases hp i hi with⟨k1,e1⟩|⟨k1,e1⟩ <;> rcases hp j hj with⟨k2,e2⟩|⟨k2,e2⟩ <;> rw[e1,e2]
  ·exact h.nd i j k1 k2 ad
  ·exact hn i k1
  ·exact(hn j k2).symm
  ·omega
theorem iM.grown {α:Type} {T:TypeId} {f:α->List Value} {xs:List α} (h:iM w base gw g0 g1 g2 g3 av lv sv b rl sl) (ho:aJ T m f w base' v xs) (hg:w.grownBy w' v.ownBlock) (h1:76≠T) (h2:52≠T) (h3:60≠T) (h4:41≠T) (h5:44≠T):iM w' base gw g0 g1 g2 g3 av lv sv b rl sl:=by
 refine⟨aH ho hg h.k fun cur=>aG h1,AO h.l hg (aP h.l ho h2),fun x hx=>?_,AO h.s hg (aP h.s ho h4),fun i hi=>?_,h.nd,h.hb⟩
 ·exact((h.lr x hx).fp fun g cur _ _ k=>aH ho hg k fun c=>aG h3).more hg.size
 ·obtain⟨g,k1,k2,k3,k4⟩:=h.sr i hi;refine⟨g,k1,k2,k3,?_⟩;unfold gK iA at k4 ⊢;exact aH ho hg k4 fun c=>aG h5
end
structure iL (w:World) (base NE n:Nat) (vo:Value) (qs:List QS) (es:List (Int×Int)):Prop where
 o:aJ 56 2 nX w base vo qs
 k:∀j (h:j<qs.length),vp 60 w base w.heap.size (qs[j]).1
 e:∀j (h:j<qs.length),j≠n->vp 91 w base NE (qs[j]).2
 a:∃h:n<qs.length,(qs[n]).2.1=es/\aJ 91 2 fO w NE (rG (qs[n]).2) es
section
variable {w w':World} {base NE n:Nat} {vo:Value} {qs:List QS} {es:List (Int×Int)}
theorem vp.fp {T:TypeId} {N N':Nat} {q:QP} (h:vp T w base N q) (hk:∀g cur,g<N->w.heap[g]?=some (.cells cur T (0,0))->w'.heap[g]?=some (.cells cur T (0,0))) (hN:N<=N'):vp T w' base N' q:=⟨h.1,h.2.1,(h.2.2.fp hk).more hN⟩
theorem iL.below (h:iL w base NE n vo qs es) (hb:Below w.heap.size w w'):iL w' base NE n vo qs es:=by
 obtain⟨h1,h2,h3,ha,h4,h5⟩:=h;have hk:∀(T:TypeId) (g:Nat) (cur:Array Value),w.heap[g]?=some (.cells cur T (0,0))->w'.heap[g]?=some (.cells cur T (0,0)):=fun T g cur hc=>(hb.block g (Ad.1 hc).1).trans hc;exact⟨h1.below hb (Af _),fun j h=>(h2 j h).fp (fun g cur _ hc=>hk _ g cur hc) hb.size,fun j h hn=>(h3 j h hn).fp (fun g cur _ hc=>hk _ g cur hc) (Af _),ha,h4,h5.below hb (Af _)⟩
theorem iL.rd {A:Option Addr} {m c:Nat} (h:iL w base NE n (.slice A m c) qs es) (ab:NE<=w.heap.size):bW w w.heap.size A (qs.map yf):=fun hn=>by
 have hn:qs.length≠0:=by simpa using hn
 obtain⟨A',c',e,_,_,ac⟩:=aJ.form h.o pj;injection e with e1 e2 e3;subst e1;obtain⟨g,o,e,hg,hc⟩:=ac hn;refine⟨g,o,e,hg,fun i hi=>?_⟩;have b:i<qs.length:=by simpa using hi
 have hq:=h.k i b;rw[C3];refine⟨⟨_,_,hc i b 0 _ rfl,hq.1,hq.2.1,hq.2.2.rd⟩,?_⟩;by_cases aa:i=n
 ·obtain⟨ha,h4,h5⟩:=h.a;subst aa;obtain⟨Ae,ce,ee,q1,q2,q3⟩:=aJ.form h5 aI;rw[<-h4]at ee q1 q3;unfold rG at ee;injection ee with ee1 ee2 ee3;refine⟨_,_,hc i b 1 _ rfl,?_,?_,?_⟩
  ·show(qs[i]).2.1.length<=(qs[i]).2.2.2
   rw[ee3];exact q1
  ·show(qs[i]).2.2.2<=_
   rw[ee3];unfold maxLen at q2;omega
  ·show jm 2 fO w w.heap.size (qs[i]).2.2.1 (qs[i]).2.1
   rw[ee1];exact q3
 ·have he:=h.e i b aa;exact⟨_,_,hc i b 1 _ rfl,he.1,he.2.1,he.2.2.rd.more ab⟩
theorem iL.st (h:iL w base NE n vo qs es) (ab:NE<=w.heap.size) (hb:base<=NE):pD w base w.heap.size w.heap.size vo qs:=by
 refine⟨h.o,fun q hq=>?_⟩;obtain⟨i,hi,rfl⟩:=BF hq;refine⟨h.k i hi,?_⟩;by_cases aa:i=n
 ·obtain⟨ha,h4,h5⟩:=h.a;subst aa;have h6:=h5;obtain⟨Ae,ce,ee,q1,q2,q3⟩:=aJ.form h5 aI;rw[ee]at h6;have hr:=aJ.rK h6;unfold rG at ee;injection ee with ee1 ee2 ee3;rw[<-h4]at q1 hr;exact⟨by rw[ee3];exact q1,by rw[ee3];unfold maxLen at q2;omega,by rw[ee1];exact hr.less hb⟩
 ·have he:=h.e i hi aa;exact⟨he.1,he.2.1,he.2.2.more ab⟩
theorem iL.of (h:pD w base w.heap.size NE vo qs) (hn:n<qs.length) (he:(qs[n]).2=([],none,0)):iL w base NE n vo qs [] :=
 ⟨h.1,fun j hj=>(h.2 _ (AE hj)).1,fun j hj _=>(h.2 _ (AE hj)).2,hn,by rw[he],by rw[he];exact aJ.nil _ _⟩
theorem iL.snoc {k:List Au.It} {c:Nat} (h:iL w base NE n vo qs es) (ho:aJ 56 2 nX w' base v' (qs++[bJ k A c])) (hg:w.grownBy w' vo.ownBlock) (hk:vp 60 w base w.heap.size (k,A,c)):iL w' base NE n v' (qs++[bJ k A c]) es:=by
 have hc:∀(T:TypeId),T≠56->∀(g:Nat) (cur:Array Value),w.heap[g]?=some (.cells cur T (0,0))->w'.heap[g]?=some (.cells cur T (0,0)):=fun T hT g cur h1=>aH h.o hg h1 fun cur=>aG hT;obtain⟨h1,h2,h3,ha,h4,h5⟩:=h;refine⟨ho,fun j hj=>?_,fun j hj aa=>?_,by rw[AW];omega,?_,?_⟩
 ·by_cases b:j<qs.length
  ·rw[B6 b];exact(h2 j b).fp (fun g cur _ d=>hc _ (by decide) g cur d) hg.size
  ·obtain rfl:j=qs.length:=by rw[AW,BA]at hj;omega
   rw[Ct (Af _)];simp only[Dg,List.getElem_singleton];exact hk.fp (fun g cur _ d=>hc _ (by decide) g cur d) hg.size
 ·by_cases b:j<qs.length
  ·rw[B6 b];exact(h3 j b aa).fp (fun g cur _ d=>hc _ (by decide) g cur d) (Af _)
  ·obtain rfl:j=qs.length:=by rw[AW,BA]at hj;omega
   rw[Ct (Af _)];simp only[Dg,List.getElem_singleton];exact⟨AV _,AV _,bP.nil _ _ _ _ _⟩
 ·rw[B6 ha];exact h4
 ·rw[B6 ha];refine⟨h5.1,?_⟩;rcases h5.2 with h0|⟨g,cap,cur,e,ab,ac,hr⟩
  ·exact .inl h0
  ·exact .inr ⟨g,cap,cur,e,ab,hc _ (by decide) g cur ac,hr⟩
theorem iL.jq {gS c:Nat} {c':Nat} (h:iL w base NE n (.slice (some ⟨gS,0,none⟩) m c) qs es) (hn:n<qs.length) (ho:aJ 91 2 fO w' NE v' (es++[x])) (hv:v'=.slice A (es++[x]).length c') (hg:w.grownBy w' (rG (qs[n]).2).ownBlock) :
  iL (w'.setCell ⟨gS,n*2+1,none⟩ v') base NE n (.slice (some ⟨gS,0,none⟩) m c) (qs.set n ((qs[n]).1,(es++[x],A,c'))) (es++[x]):=by
 obtain⟨h1,h2,h3,ha,h4,h5⟩:=h;have hc:∀(T:TypeId),T≠91->∀(g:Nat) (cur:Array Value),w.heap[g]?=some (.cells cur T (0,0))->w'.heap[g]?=some (.cells cur T (0,0)):=fun T hT g cur hh=>aH h5 hg hh fun cur=>aG hT
 have ae:aJ 56 2 nX w' base (.slice (some ⟨gS,0,none⟩) m c) qs:=by
  refine⟨h1.1,?_⟩;rcases h1.2 with h0|⟨g,cap,cur,e,ab,b,hr⟩
  ·exact .inl h0
  ·exact .inr ⟨g,cap,cur,e,ab,hc _ (by decide) g cur b,hr⟩
 obtain⟨cur,ac⟩:∃cur,w'.heap[gS]?=some (.cells cur 56 (0,0)):=by
  rcases ae.2 with⟨e,_⟩|⟨g2,cap,cur,e,_,b,_⟩
  ·cases e
  ·injection e with e _ _;injection e with e;injection e with e;subst e;exact⟨cur,b⟩
 have hs:∀(T:TypeId),T≠56->∀(g:Nat) (cu:Array Value),w'.heap[g]?=some (.cells cu T (0,0))->(w'.setCell ⟨gS,n*2+1,none⟩ v').heap[g]?=some (.cells cu T (0,0)):=fun T hT g cu hh=>(AU w' ⟨gS,n*2+1,none⟩ _ g (fun e=>by
  have e:g=gS:=e;rw[e,ac]at hh;injection hh with hh;exact aG (fun q=>hT q.symm) hh)).trans hh
 have af:(w'.setCell ⟨gS,n*2+1,none⟩ v').heap.size=w'.heap.size:=by simp
 refine⟨?_,fun j hj=>?_,fun j hj d=>?_,by rw[BX];exact hn,?_,?_⟩
 ·rcases ae.2 with⟨e,_⟩|⟨g2,cap,cur2,e,hb,b,q1,hm,ag,ht⟩
  ·cases e
  ·injection e with e1 e2 e3;injection e1 with e1;injection e1 with e1;subst e1 e3;have hl:(qs.set n ((qs[n]).1,(es++[x],A,c'))).length=qs.length:=BX;unfold aJ;rw[hl];refine⟨by rw[tH pj,hl],.inr ⟨gS,c,cur2.setIfInBounds (n*2+1) v',by rw[e2],hb,AZ w' gS _ _ _ _ b,q1,hm,by simp[ag],?_⟩⟩;have e9:rG (es++[x],A,c')=v':=by rw[hv];rfl
   rw[<-MG qs n ((qs[n]).1,(es++[x],A,c')) (fun _=>rfl),<-ht];simp only[Array.toList_setIfInBounds];rw[List.take_set,e9]
 ·have ad:j<qs.length:=by rw[BX]at hj;exact hj
  rw[af];have hq:=(h2 j ad).fp (fun g cu _ aa=>hs _ (by decide) g cu (hc _ (by decide) g cu aa)) hg.size;by_cases d:n=j
  ·subst d;rw[C9];exact hq
  ·rw[DL d];exact hq
 ·have ad:j<qs.length:=by rw[BX]at hj;exact hj
  rw[DL (fun e=>d e.symm)];refine(h3 j ad d).fp (fun g cu ah aa=>hs _ (by decide) g cu ((hg.block g (Ad.1 aa).1 (fun e=>?_)).trans aa)) (Af _)
  have:=(Bk h5 g e.symm).1
  omega
 ·rw[C9]
 ·rw[C9];have e9:rG (es++[x],A,c')=v':=by rw[hv];rfl
  rw[e9];refine⟨ho.1,?_⟩;rcases ho.2 with h0|⟨g,cap,cu,e,ab,b,hr⟩
  ·exact .inl h0
  ·exact .inr ⟨g,cap,cu,e,ab,hs _ (by decide) g cu b,hr⟩
end
noncomputable def Gm.oR (G:Gm.Gr) (i:Nat):List Int:=Gm.ord [] (((G.rs.take i).filter (Gm.use G)).map Gm.Rl.l)
theorem Gm.wQ (h:i<G.rs.length):Gm.oR G (i+1)=if Gm.use G G.rs[i]=true then(if(G.rs[i]).l∈Gm.oR G i then Gm.oR G i else Gm.oR G i++[(G.rs[i]).l]) else Gm.oR G i:=by
 unfold Gm.oR;rw[AL h,B9,Bf];cases hu:Gm.use G G.rs[i]
 ·simp[hu]
 ·rw[show [G.rs[i]].filter (Gm.use G)=[G.rs[i]] by simp[hu],EF,Gm.mV,AC rfl]
theorem Gm.yH (G:Gm.Gr):Gm.oR G G.rs.length=Gm.fu G:=by unfold Gm.oR Gm.fu Gm.iC;rw[Bn]
theorem Gm.yJ (h:Gm.Ok G) (hj:j∈Gm.oR G i):0<=j/\j<G.ns.length:=by
 unfold Gm.oR at hj;rw[Gm.mo]at hj;rcases hj with hj|hj
 ·simp at hj
 ·obtain⟨x,hx,rfl⟩:=Bm.1 hj;exact h.iT x (DV (B7.1 hx).1)
theorem Gm.yI (h:Gm.Ok G) (i:Nat):(Gm.oR G i).length<=G.ns.length:=by
 have h1:=Gm.kg G.ns.length ((Gm.oR G i).map (· + 1)) ?_ ?_
 ·simpa using h1.1
 ·refine BO.2 ?_;rw[Dk]
  have:(Gm.oR G i).Nodup:=Gm.kf _ _ (by simp)
  exact(BO.1 this).imp fun h e=>h (by omega)
 ·intro x hx;obtain⟨y,hy,rfl⟩:=Bm.1 hx
  have:=Gm.yJ h hy
  omega
theorem Gm.sE {o:List Int} {l:Int}:Gm.pos o l<0↔l ∉ o:=by
 constructor
 ·intro h hm
  have:=Gm.kL hm
  omega
 ·intro h;rw[Gm.oW h];omega
theorem Gm.y9 (h:Gm.Ok G) (o:List Int) (ho:o.length<=G.ns.length) (n i:Nat) (hi:i<n):-1<=(Gm.od n o).getD i 0/\(Gm.od n o).getD i 0<=1000:=by
 rw[Gm.nj hi];have h3:=(Gm.fG G).1 h.n;by_cases hm:(i:Int)∈o
 ·have h1:=Gm.kL hm;omega
 ·rw[Gm.oW hm];omega
theorem Gm.wD (h:k<n):(List.replicate k (-1:Int)++List.replicate (n-k) 0).set k (-1)=List.replicate (k+1) (-1)++List.replicate (n-(k+1)) 0:=by
 rw[DB _ _ (by simp)];rw[List.length_replicate,Dg,show n-k=(n-(k+1))+1 by omega,CR,CB,List.replicate_succ'];simp
section
variable {w1 wr w':World} {H gA base:Nat} {cs:Array Value} {vT vN vR vK:Value} {ts:List Gm.Tm} {ns:List (List Int)} {rs:List Gm.Rl} {an ks:List Int}
theorem ju.other (h:ju w1 wr H gA cs vT vN (.slice none 0 0) ts ns [] an) (ho:aV wr base vK ks) (hb:gA<base) (hg:wr.grownBy w' vK.ownBlock):ju w1 w' H gA cs vT vN (.slice none 0 0) ts ns [] an:=by
 have hA:=h.hA;refine⟨qE h.h ho (by decide) hg,AO h.t hg (aP h.t ho (by decide)),AO h.nn hg (aP h.nn ho (by decide)),bA.nil _ _ _,h.a.grown hg (fun e=>?_),h.w.grown hg h.w.size (fun k e=>?_),h.hH,h.hA⟩
 ·have:=(Bk ho gA e.symm).1
  omega
 ·have:=(Bk ho k e).1
  omega
end
theorem Nt (v:Value) (G:Gm.Gr) (B:Nat) (w:World) (hg:aT w B v G) (hf:Gm.Fit G) (hB:B<=w.heap.size) :
  Calls prog 36 #[v] w (sN G w):=by
 have H1:=aA (fun(x:World) (h:Below w.heap.size w x)=>zJ v G B x (hg.below h hB) hf (Aj hB h.size));have H2:=aA (fun(x:World) (h:Below w.heap.size w x)=>Jq v G B x (hg.below h hB) hf (Aj hB h.size));have H3:=aA (fun(x:World) (h:Below w.heap.size w x)=>MY v G B x (hg.below h hB) hf (Aj hB h.size));have eW:=fun w=>JU w;obtain⟨AT,cT,AN,cN,AR,cR,rfl,_,⟨eX,eY⟩,_,hT,hN,hR⟩:=hg;have de:=aA (fun(y:World) (h:Below w.heap.size w y)=>hR.fp fun g o hg=>h.cell (p:=⟨g,o,none⟩) (Ah hg hB));have d4:=aA (fun(y:World) (h:Below w.heap.size w y)=>hN.fp fun g o hg=>h.cell (p:=⟨g,o,none⟩) (Ah hg hB));have d5:=aA (fun(y:World) (h:Below w.heap.size w y)=>hT.fp fun g o hg=>h.cell (p:=⟨g,o,none⟩) (Ah hg hB));have HB:=aA hB;have df:=aA hf;obtain⟨w1,av⟩:∃y,y=(w.alloc (.cells #[.slice AT G.ts.length cT,.slice AN G.ns.length cN,.slice AR G.rs.length cR,.int .i64 G.st] 26)).alloc (.cells #[.slice none 0 0,.slice none 0 0,.slice none 0 0,.int .i64 0] 26):=⟨_,rfl⟩
 have dg:w1.heap.size=w.heap.size+2:=by rw[av];simp
 have bo:Hid (Below w.heap.size w w1):=aA (by rw[av];exact((AB _ w).alloc (Af _) _).alloc (by simp) _);have aw:Hid (w1.heap[w.heap.size]?=some (.cells #[.slice AT G.ts.length cT,.slice AN G.ns.length cN,.slice AR G.rs.length cR,.int .i64 G.st] 26 (0,0))):=aA (by rw[av,Bs _ _ _ (by simp)];exact AG w _);have d6:Hid (w1.heap[w.heap.size+1]?=some (.cells #[.slice none 0 0,.slice none 0 0,.slice none 0 0,.int .i64 0] 26 (0,0))):=aA (by rw[av];have:=AG (w.alloc (.cells #[.slice AT G.ts.length cT,.slice AN G.ns.length cN,.slice AR G.rs.length cR,.int .i64 G.st] 26)) (.cells #[.slice none 0 0,.slice none 0 0,.slice none 0 0,.int .i64 0] 26);simpa using this);have bp:=aA dg;have HQ:=aA (fun(y:World) (h:Below w1.heap.size w1 y)=>(h.block w.heap.size (by omega)).trans aw.o);have HZ:=aA (fun(y:World) (h:Below w1.heap.size w1 y)=>(h.block (w.heap.size+1) (by omega)).trans d6.o);have ax:=aA (fun(y:World) (h:Below w1.heap.size w1 y)=>bo.o.trans (h.mono (by omega)));have c0:=aS aw.o;have c1:=aX aw.o;have c2:=aY aw.o;have c3:=bI aw.o;have eZ:w.heap.size<w1.heap.size:=by omega
 clear hf dg hT hN hR hB;cases q:Gm.right G
 ·rw[q]at H1;have HE:=aA (Gm.o9 q);clear q H2 H3
  go_enter func36,ntmps36
  go_upto_region 1 with fail
  rw[<-av];clear av;go_wp2_with fail
  refine(H1.o _ bo.o).mono ?_;rintro _ w2 ⟨rfl,O⟩;have g0:=aS (HZ.o w2 O);have g1:=aX (HZ.o w2 O);have g2:=aY (HZ.o w2 O);have g3:=bI (HZ.o w2 O);have e0:=AH w2 _ 0 _ _ (HZ.o w2 O);have e1:=AH w2 _ 1 _ _ (HZ.o w2 O);have e2:=AH w2 _ 2 _ _ (HZ.o w2 O);have e3:=AH w2 _ 3 _ _ (HZ.o w2 O);have lz:=(Ad.1 (HZ.o w2 O)).1;have ay:=aA (fun u1 u2 u3 u4=>((((ax.o w2 O).setCell (p:=⟨w.heap.size+1,0,none⟩) (by simp only;omega) u1).setCell (p:=⟨w.heap.size+1,1,none⟩) (by simp only;omega) u2).setCell (p:=⟨w.heap.size+1,2,none⟩) (by simp only;omega) u3).setCell (p:=⟨w.heap.size+1,3,none⟩) (by simp only;omega) u4);clear c0 c1 c2 c3 O H1;go_wp2;refine B8 (v:=.tuple #[.agg #[.slice none 0 0,.slice none 0 0,.slice none 0 0,.int .i64 0],.slice none 0 0,.int .i64 1]) (by simp[results,results36,go_sem,g0,g1,g2,g3]) rfl ?_;exact sN.no HE.o (by decide) (ay.o _ _ _ _)
 ·have dh:=aA q;have N:=aA (Gm.ft.1 q);have H2:=aA (fun x h=>(show Calls _ _ _ _ (tK _ _) from(H2.o x h).mono fun e w' k=>k.1 q));have H3:=aA (fun x h=>(show Calls _ _ _ _ (tK _ _) from(H3.o x h).mono fun e w' k=>k.1 q));rw[q]at H1;clear q;have a4:=aA (fun x hx=>Gm.mw N.o (x:=x) hx);have bz:Hid (G.ns.length<=40):=aA (by have:=(Gm.fG G).1 N.o.n;omega);have cv:Hid (G.ts.length<=24):=aA (by have:=N.o.t;unfold Gm.gU at this;rw[Bb]at this;exact Cy this.1);have aq:Hid (G.rs.length<=40):=aA N.o.kz;obtain⟨T,hT⟩:∃x,x=Gm.gn true G.rs G.ns.length:=⟨_,rfl⟩
  have cg:Hid (T.length=G.ns.length):=aA (by rw[hT,Gm.gW]);rw[<-hT]at H2 a4;obtain⟨R,cw⟩:∃x,x=Gm.rc G:=⟨_,rfl⟩
  have di:Hid (R.length=G.ns.length):=aA (by rw[cw,Gm.mZ]);rw[<-cw]at H3 a4;have d7:=N.o.s0;have cz:=N.o.s1;obtain⟨m,hm⟩:∃m:Nat,G.st=(m:Int):=⟨G.st.toNat,by omega⟩
  obtain⟨tb,cA⟩:∃b,b=T.getD m false:=⟨_,rfl⟩
  have ch:Hid (tb=Gm.tr (Gm.Gn true G.rs G.st)):=aA (by rw[cA,hT,Gm.mN _ _ _ _ (by omega),hm]);have cB:=aA cA;have HM:=aA hm;have cC:m<G.ns.length:=by omega
  have e4:(m:Int)<(G.ns.length:Int):=by omega
  have e5:=bz.o;have dj:(G.ns.length:Int)<=9223372036854775807:=by omega
  have dk:(G.rs.length:Int)<=9223372036854775807:=by have:=aq.o;omega
  clear hT d7 cz hm cA cw
  go_enter func36,ntmps36
  go_upto_region 1 with fail
  rw[<-av];clear av;go_upto_region 3 with fail
  refine(H1.o _ bo.o).mono ?_;rintro _ w2 ⟨rfl,O⟩;have U:=aA O;clear O c0 c1 c2 c3 H1;go_upto_region 3 with fail
  go_cut [5,6] (fun v5 v6 wx=>∃gp gr,v5=.slice (some ⟨gp,0,none⟩) G.ns.length G.ns.length/\v6=.slice (some ⟨gr,0,none⟩) G.ns.length G.ns.length/\fL wx gp T/\fL wx gr R/\Below w1.heap.size w1 wx)
  case first =>
   have q0:=fun y:Calm.On w2.heap.size w2=>aS (HQ.o y.1 (U.o.trans (y.2.mono U.o.size)));have q1:=fun y:Calm.On w2.heap.size w2=>aX (HQ.o y.1 (U.o.trans (y.2.mono U.o.size)));have q2:=fun y:Calm.On w2.heap.size w2=>aY (HQ.o y.1 (U.o.trans (y.2.mono U.o.size)));have q3:=fun y:Calm.On w2.heap.size w2=>bI (HQ.o y.1 (U.o.trans (y.2.mono U.o.size)));have bD:Hid (Below w2.heap.size w2 w2.drew):=aA (aB (AB _ _) 1);refine CalmN.fk (fun x=>∃y:Calm.On w2.heap.size w2,x=y.1) (.one [0,2] 1 (.one [] 3 (.fin [4,5]))) (by kernel_rfl) (by kernel_rfl) (fun _ _ d _ _ h=>by cases d <;> exact h) ⟨⟨w2.drew,bD.o⟩,rfl⟩ ?_;simp only[CalmN.fN,CalmN.fv,CalmN.fo,Az,Am,Ap];repeat (go_big_quiet_step (fail))
   refine Aw ?_;clear q0 q1 q2 q3;obtain⟨wd,al⟩:∃y,y=w2.drew:=⟨_,rfl⟩
   rw[<-al]at bD ⊢;clear al;intro KK C;rw[AC (by rfl)];go_wp2_with fail
   refine(H2.o wd (ax.o _ (U.o.trans (bD.o.mono U.o.size)))).mono ?_;rintro _ w3 ⟨ga,rfl,e6,dl,d8⟩;rw[cg.o];have f:Below w2.heap.size w2 w3:=bD.o.trans (d8.mono bD.o.size);have cD:=aA (U.o.trans (f.mono U.o.size));go_wp2_with fail
   refine C _ _ ⟨⟨w3,f⟩,rfl⟩ _ (fun _ h=>h) ⟨⟨w3,f⟩,rfl⟩ ?_;refine Aw ?_;intro KK C;rw[AC (by rfl)];go_wp2_with fail
   refine(H3.o w3 (ax.o _ cD.o)).mono ?_;rintro _ w4 ⟨gb,rfl,e7,d9,cE⟩;rw[di.o];have bM:Below w2.heap.size w2 w4:=f.trans (cE.mono f.size);go_wp2_with fail
   refine C _ _ ⟨⟨w4,bM⟩,rfl⟩ _ (fun _ h=>h) ⟨⟨w4,bM⟩,rfl⟩ ?_;repeat (go_big_quiet_step (fail))
   refine Aw ?_;go_wp2_with fail
   go_meet
   case rel=>exact⟨ga,gb,rfl,rfl,dl.below cE dl.lt,d9,cD.o.trans (cE.mono cD.o.size)⟩
  case rest =>
   obtain⟨gp,gr,rfl,rfl,ci,dm,cF⟩:=hcut;have dn:=aA ci;have dp:=aA dm;have F:=aA cF;have q3:=bI (HQ.o wc cF);rw[HM.o]at q3;have km:=ci.cell m (by rw[cg.o];exact cC);rw[<-cB.o]at km;have lq:=Bj q3;have lp:=ci.lt;clear ci dm cF H2 H3 U;cases hp:Gm.tr (Gm.Gn true G.rs G.st)
   ·have HE:=aA (Gm.lT dh.o hp);obtain rfl:tb=false:=ch.o.trans hp;have g0:=aS (HZ.o wc F.o);have g1:=aX (HZ.o wc F.o);have g2:=aY (HZ.o wc F.o);have g3:=bI (HZ.o wc F.o);have e0:=AH wc _ 0 _ _ (HZ.o wc F.o);have e1:=AH wc _ 1 _ _ (HZ.o wc F.o);have e2:=AH wc _ 2 _ _ (HZ.o wc F.o);have e3:=AH wc _ 3 _ _ (HZ.o wc F.o);have lz:=(Ad.1 (HZ.o wc F.o)).1;have ay:=aA (fun u1 u2 u3 u4=>((((ax.o wc F.o).setCell (p:=⟨w.heap.size+1,0,none⟩) (by simp only;omega) u1).setCell (p:=⟨w.heap.size+1,1,none⟩) (by simp only;omega) u2).setCell (p:=⟨w.heap.size+1,2,none⟩) (by simp only;omega) u3).setCell (p:=⟨w.heap.size+1,3,none⟩) (by simp only;omega) u4);clear hp ch cB;go_wp2;refine B8 (v:=.tuple #[.agg #[.slice none 0 0,.slice none 0 0,.slice none 0 0,.int .i64 0],.slice none 0 0,.int .i64 9]) (by simp[results,results36,go_sem,g0,g1,g2,g3]) rfl ?_;exact sN.no HE.o (by decide) (ay.o _ _ _ _)
   ·have HE:=aA (Gm.pa dh.o hp);have e8:=aA (Gm.fP.1 hp);obtain rfl:tb=true:=ch.o.trans hp;clear hp ch cB;have br:=aA (fun(y:World) (h:Below wc.heap.size wc y)=>HQ.o y (F.o.trans (h.mono F.o.size)));have e9:=aA (fun(y:World) (h:Below wc.heap.size wc y)=>ax.o y (F.o.trans (h.mono F.o.size)));have c0:=aS (HQ.o wc F.o);go_upto_region 7 with(at_builtin;refine Iz rfl (.tmp 33) (.tmp 35) _ rfl underlying22 wc.heap.size _ [] rfl (xV wc) B G.ts.length cT AT G.ts rfl rfl (d5.o _ ((ax.o _ F.o).alloc (ax.o _ F.o).size _)) (by have:=cv.o;simp;omega) (by simp) ?_;intro v2 w5 az a5;have dq:=aA az;have cj:=aA (((AB wc.heap.size wc).alloc (Af _) (.cells #[] 81)).grown a5 (by simp) (fun k e=>(aM (xV wc) e).1));obtain⟨A2,c2,rfl,_,_⟩:=aN az;clear az a5)
    obtain⟨w6,bT⟩:∃y,y=w5.alloc (.cells #[.slice A2 G.ts.length c2,.slice none 0 0,.slice none 0 0,.int .i64 0] 26):=⟨_,rfl⟩
    have bX:Hid (Below wc.heap.size wc w6):=aA (by rw[bT];exact cj.o.alloc cj.o.size _);have b3:Hid (bB w6 wc.heap.size (.slice A2 G.ts.length c2) G.ts):=aA (by rw[bT];exact C5 dq.o _);have dr:Hid (w6.heap[w5.heap.size]?=some (.cells #[.slice A2 G.ts.length c2,.slice none 0 0,.slice none 0 0,.int .i64 0] 26 (0,0))):=aA (by rw[bT];exact AG w5 _);rw[<-bT];clear bT dq c0 q3 km lq;have c1:=aX (br.o w6 bX.o);have l6:=Bj c1;go_upto_region 8 with(at_make;refine IJ rfl (.tmp 40) (.tmp 40) _ rfl underlying38 G.ns.length _ _ rfl rfl rfl rfl (by omega) ?_;intro w7 ds ck cG)
    have cH:Hid (ju wc w7 w5.heap.size w6.heap.size #[.slice A2 G.ts.length c2,.slice none 0 0,.slice none 0 0,.int .i64 0] (.slice A2 G.ts.length c2) (.slice none 0 0) (.slice none 0 0) G.ts [] [] (List.replicate G.ns.length 0)):=aA
     ⟨aC ck dr.o,AO b3.o (aK ck .none) (vB _),bK.nil _ _,bA.nil _ _ _,ds,bX.o.trans (ck.mono bX.o.size),cj.o.size,bX.o.size⟩
    obtain⟨vT,cI⟩:∃v,v=Value.slice A2 G.ts.length c2:=⟨_,rfl⟩
    obtain⟨H,hH⟩:∃x,x=w5.heap.size:=⟨_,rfl⟩
    obtain⟨gA,cJ⟩:∃x,x=w6.heap.size:=⟨_,rfl⟩
    rw[<-cI,<-hH,<-cJ]at cH;rw[<-cI,<-hH,<-cJ];clear cI hH cJ ds ck c1 l6 cG b3 dr bX cj;go_wp2;go_loopw [9] (fun vk wr=>∃(k:Nat),k<=G.ns.length/\vk=.int .i64 k/\Hid (ju wc wr H gA #[vT,.slice none 0 0,.slice none 0 0,.int .i64 0] vT (.slice none 0 0) (.slice none 0 0) G.ts [] [] (List.replicate k (-1)++List.replicate (G.ns.length-k) 0))) (fun vk _=>G.ns.length-(intOf vk).toNat)
    case atStart=>exact⟨0,AV _,rfl,by simpa using cH⟩
    case round =>
     clear cH;obtain⟨k,hk,rfl,HS⟩:=hrel;by_cases hlt:k<G.ns.length
     ·have ka:=HS.o.a.cell k (by simp;omega);have fa:=HS.o.a.frozen k;have la:=HS.o.a.lt;have dt:=aA (HS.o.yU k (-1));rw[Gm.wD hlt]at dt;go_wp2;go_roundw
      case rel=>exact⟨k+1,hlt,by go_num,dt⟩
      case measure=>simp[intOf];omega
     ·obtain rfl:k=G.ns.length:=by omega
      rw[Dg,D7,CF,<-Gm.xg]at HS;go_wp2;go_loopw [10,11] (fun v10 v11 wr=>∃(i:Nat) (vN:Value),i<=G.rs.length/\v11=.int .i64 i/\Hid (ju wc wr H gA #[vT,vN,.slice none 0 0,.int .i64 0] vT vN (.slice none 0 0) G.ts (Gm.gY G (Gm.oR G i)) [] (Gm.od G.ns.length (Gm.oR G i)))/\Hid (aV wr (gA+1) v10 (Gm.kl G i))) (fun _ v11 _=>G.rs.length-(intOf v11).toNat)
      case atStart=>exact⟨0,_,AV _,rfl,HS,aA (aV.nil _ _)⟩
      case round =>
       clear HS hlt;obtain⟨i,vN,hi,rfl,HS,HK⟩:=hrel;by_cases hlt:i<G.rs.length
       ·obtain⟨g,o,rfl,ea,hc⟩:=de.o w1 bo.o (by omega);obtain⟨k0,⟨A',c',k1,_,_,b4⟩,k2⟩:=hc i hlt;have a6:g<w1.heap.size:=by have:=HB.o;have:=bp.o;omega
        have am:=aA (fun(y:World) (h:Below wc.heap.size wc y)=>F.o.trans (h.mono F.o.size));have k0:=((am.o wr HS.o.w).cell (p:=⟨g,o+i*3,none⟩) a6).trans k0;have k1:=((am.o wr HS.o.w).cell (p:=⟨g,o+i*3+1,none⟩) a6).trans k1;have k2:=((am.o wr HS.o.w).cell (p:=⟨g,o+i*3+2,none⟩) a6).trans k2;have ac:G.rs[i]∈G.rs:=AE hlt;have e:=df.o.r _ ac;have a9:=N.o.iT _ ac;have cL:=(Gm.fJ (N.o.rr _ ac)).1;have bs:=aA (Gm.sh hlt);have ba:=aA (Gm.wQ hlt);have du:=aA (a4.o _ ac);have eb:=aA (Gm.yI N.o i);have cl:=aA (Aj (Gm.uy G i) hi);have b5:=aA (fun(y:World) (h:Below wc.heap.size wc y)=>Ii G.rs[i].r T true A' (some ⟨gp,0,none⟩) c' G.ns.length B wc.heap.size y (b4.fp fun g o hg=>(am.o y h).cell (p:=⟨g,o,none⟩) (by have:=HB.o;have:=bp.o;simp only;omega)) e.2.2 (fun z hz h0=>by rw[cg.o];exact N.o.sin _ ac z hz h0) ((dn.o.o4 dn.o.lt).below h (Af _)) (by omega));rw[cg.o]at b5;generalize G.rs[i]=x at *;obtain⟨l,r,pz⟩:=x;simp only at k0 k1 k2 b5 a9 cL ba;obtain⟨ml,rfl⟩:∃m:Nat,l=(m:Int):=⟨l.toNat,by omega⟩
        have cM:=a9.2;have J:ml<G.ns.length:=by omega
        have dv:Hid (Gm.oZ T R ⟨ml,r,pz⟩=(R.getD ml false&&Gm.iw true T r)):=aA (by simp[Gm.oZ]);have bu:=aA (du.o.symm.trans dv.o);generalize Gm.use G ⟨(ml:Int),r,pz⟩=ub at *;have q2:=aY (br.o wr HS.o.w);have lq:=Bj q2;have lg:=Bj k0;have kr:=(HS.o.w.cell (p:=⟨gr,ml,none⟩) dp.o.lt).trans (dp.o.cell ml (by rw[di.o];exact J));have lr:=Bj kr;have V:=aA (HS.o.alloc (.cells #[.int .i64 ml,.slice A' r.length c',.int .i64 pz] 48));have bb:=aA (HK.o.alloc (.cells #[.int .i64 ml,.slice A' r.length c',.int .i64 pz] 48));have ar:=aA (AG wr (.cells #[.int .i64 ml,.slice A' r.length c',.int .i64 pz] 48));clear hc b4 e ac a9 du dv;generalize R.getD ml false=rb at *;cases rb
        ·obtain rfl:ub=false:=bu.o;have HX:Hid (Gm.kl G (i+1)=Gm.kl G i):=aA (bs.o.trans (AI (by simp)));have a0:Hid (Gm.oR G (i+1)=Gm.oR G i):=aA (ba.o.trans (AI (by simp)));clear bs ba bu;go_wp2;go_roundw
         case rel=>exact⟨i+1,vN,hlt,by go_num,by rw[a0.o];exact V,by rw[HX.o];exact bb⟩
         case measure=>simp[intOf];omega
        ·have cO:=aA (b5.o _ V.o.w);generalize Gm.iw true T r=ab at *;cases ab
         ·obtain rfl:ub=false:=bu.o;have HX:Hid (Gm.kl G (i+1)=Gm.kl G i):=aA (bs.o.trans (AI (by simp)));have a0:Hid (Gm.oR G (i+1)=Gm.oR G i):=aA (ba.o.trans (AI (by simp)));clear bs ba bu b5;go_wp2_with fail
          refine cO.o.mono ?_;rintro _ w8 ⟨rfl,ao⟩;subst ao;go_wp2;go_roundw
          case rel=>exact⟨i+1,vN,hlt,by go_num,by rw[a0.o];exact V,by rw[HX.o];exact bb⟩
          case measure=>simp[intOf];omega
         ·obtain rfl:ub=true:=bu.o;have HX:Hid (Gm.kl G (i+1)=Gm.kl G i++[(i:Int)]):=aA (bs.o.trans (AC rfl));have au:=aA (ba.o.trans (AC rfl));have dw:Hid (gA<wr.heap.size):=aA HS.o.a.lt;clear bs ba bu b5;go_upto_region 18 with fail
          refine cO.o.mono ?_;rintro _ w8 ⟨rfl,ao⟩;subst ao;go_upto_region 18 with fail
          obtain⟨w8,ao⟩:∃y,y=wr.alloc (.cells #[.int .i64 ml,.slice A' r.length c',.int .i64 pz] 48):=⟨_,rfl⟩
          have ec:Hid (w8.heap.size=wr.heap.size+1):=aA (by rw[ao];simp);rw[<-ao]at V bb ar ⊢;clear ao k0 k1 k2 q2 lq lg kr lr cO;go_upto_region 19 with(at_builtin;refine xQ rfl (.tmp 76) (.tmp 78) _ rfl underlying38 (gA+1) _ _ rfl (bb.o.alloc _) _ 1 i rfl (C8 _ _ _ 0) (by have:=cl.o;have:=aq.o;omega) (by have:=dw.o;have:=ec.o;simp;omega) ?_;intro v' w9 dx cP;have I:=aA ((V.o.alloc _).other (bb.o.alloc _) (by omega) cP);have bv:=aA dx;have cm:=aA (qE (aC ((AB _ _).alloc (Af _) _) ar.o) (bb.o.alloc _) (by decide) cP);clear dx cP)
          clear V bb ar;have d0:=aS cm.o;have ld:=(Ad.1 cm.o).1;have kt:=I.o.a.cell ml (by rw[Gm.mu];exact J);rw[Gm.nj J]at kt;have lt9:=I.o.a.lt;by_cases bc:(ml:Int)∈Gm.oR G i
          ·have a0:=aA (au.o.trans (AC bc));have hq:decide (Gm.pos (Gm.oR G i) ml<0)=false:=AM (fun h=>Gm.sE.1 h bc);generalize Gm.pos (Gm.oR G i) ml=pq at *;clear bc au;go_wp2;go_roundw
           case rel=>exact⟨i+1,vN,hlt,by go_num,by rw[a0.o];exact I,by rw[HX.o];exact bv⟩
           case measure=>simp[intOf];omega
          ·have a0:=aA (au.o.trans (AI bc));have hq:decide (Gm.pos (Gm.oR G i) ml<0)=true:=AQ (Gm.sE.2 bc);have cn:=aA bc;obtain⟨A9,c9,rfl,_,_⟩:=aN I.o.nn;have cQ:(Gm.gY G (Gm.oR G i)).length=(Gm.oR G i).length:=by simp[Gm.gY]
           have dy:Hid (Gm.gY G (Gm.oR G (i+1))=Gm.gY G (Gm.oR G i)++[G.ns.getD ml []]):=aA (by rw[a0.o];simp[Gm.gY]);have j1:=aX I.o.h;have lh:=Bj j1;have fa:=I.o.a.frozen ml
           have A:Hid (ju wc (w9.setCell ⟨gA,ml,none⟩ (.int .i64 (Gm.gY G (Gm.oR G i)).length)) H gA #[vT,.slice A9 (Gm.gY G (Gm.oR G i)).length c9,.slice none 0 0,.int .i64 0] vT (.slice A9 (Gm.gY G (Gm.oR G i)).length c9) (.slice none 0 0) G.ts (Gm.gY G (Gm.oR G i)) [] (Gm.od G.ns.length (Gm.oR G (i+1)))):=aA (by
            have q:=I.o.yU ml ((Gm.gY G (Gm.oR G i)).length:Int);rw[cQ]at q;rw[a0.o,<-Gm.uY cn.o];rw[cQ];exact q)
           have X:=aA (bv.o.jr (aF (AJ w9 (some gA)) ml (.int .i64 (Gm.gY G (Gm.oR G i)).length)) (by omega));have Z:=aA ((AU w9 ⟨gA,ml,none⟩ (.int .i64 (Gm.gY G (Gm.oR G i)).length) wr.heap.size (by have:=dw.o;simp only;omega)).trans cm.o);generalize Gm.pos (Gm.oR G i) ml=pq at *;clear bc au cQ;go_upto_region 21 with fail
           obtain⟨wz,dz⟩:∃y,y=w9.setCell ⟨gA,ml,none⟩ (.int .i64 (Gm.gY G (Gm.oR G i)).length):=⟨_,rfl⟩
           rw[<-dz]at A X Z ⊢;clear dz I bv cm d0 ld kt lt9 j1 lh fa;obtain⟨gN,oN,rfl,fc,dA⟩:=d4.o w1 bo.o (by omega);have kN:=dA ml J;rw[show G.ns[ml]=G.ns.getD ml [] by rw[Ag,AD J];rfl]at kN;obtain⟨nm,dB⟩:∃s,s=G.ns.getD ml []:=⟨_,rfl⟩
           rw[<-dB]at kN dy;clear dB;have ed:gN<w1.heap.size:=by have:=HB.o;have:=bp.o;omega
           have a1:=aA (fun(y:World) (h:Below wc.heap.size wz y)=>A.o.w.trans h);have bN:=fun y:EV wc.heap.size wr.heap.size wz=>((am.o y.1 (a1.o y.1 y.2.1)).cell (p:=⟨gN,oN+ml,none⟩) ed).trans kN;have bq:=fun y:EV wc.heap.size wr.heap.size wz=>aX (br.o y.1 (a1.o y.1 y.2.1));have bd:=fun y:EV wc.heap.size wr.heap.size wz=>aS (y.2.2.trans Z.o);have b6:=aA A.o.drew;have dC:Hid (aV wz.drew (gA+1) v' (Gm.kl G i++[(i:Int)])):=aA (X.o.drewN 1);have bf:Hid (Below wc.heap.size wz wz.drew/\wz.drew.heap[wr.heap.size]?=wz.heap[wr.heap.size]?):=aA ⟨aB (AB _ _) 1,rfl⟩;refine CalmN.fk (fun x=>∃y:EV wc.heap.size wr.heap.size wz,x=y.1) (.two [0,2,3,4,5,6,7] 1 (.one [] 8 (.one [] 9 (.one [10] 11 (.fin [])))) 8 (.one [] 1 (.one [] 9 (.one [10] 11 (.fin []))))) (by kernel_rfl) (by kernel_rfl) (fun _ _ d _ _ h=>by cases d <;> exact h) ⟨⟨wz.drew,bf.o⟩,rfl⟩ ?_;simp only[CalmN.fN,CalmN.fv,CalmN.fo,Az,Am,Ap];repeat (go_big_quiet_step (fail))
           refine Aw ?_;clear bN bq bd kN dA;obtain⟨w8',ao⟩:∃y,y=wz.drew:=⟨_,rfl⟩
           rw[<-ao]at b6 dC bf ⊢;clear ao A X;have I:=aA (b6.o.alloc (.cells #[.string (K.str nm)] 9));have bv:=aA (dC.o.alloc (.cells #[.string (K.str nm)] 9));have bw:Hid (Below wc.heap.size wz (w8'.alloc (.cells #[.string (K.str nm)] 9))/\(w8'.alloc (.cells #[.string (K.str nm)] 9)).heap[wr.heap.size]?=wz.heap[wr.heap.size]?):=aA ⟨bf.o.1.alloc b6.o.w.size _,(Bs w8' _ _ (Ad.1 (bf.o.2.trans Z.o)).1).trans bf.o.2⟩;have ee:Hid ((w8'.alloc (.cells #[.string (K.str nm)] 9)).cell? ⟨w8'.heap.size,0,none⟩=some (.string (K.str nm))):=aA (C8 _ _ _ 0);have n8:=AF w8' _ 1 _ _ _ b6.o.h;have n9:=AF _ _ 1 _ _ _ I.o.h;have lh8:=(Ad.1 b6.o.h).1;have lh9:=(Ad.1 I.o.h).1;refine⟨?_,?_⟩
           focus
            intro KK C;rw[AC (by rfl)];go_wp2_with fail
            refine C _ _ ⟨⟨_,bf.o⟩,rfl⟩ _ (fun _ h=>h) ⟨⟨_,bf.o⟩,rfl⟩ ?_
           rotate_left
           focus
            intro KK C;rw[AC (by rfl)];go_wp2_with fail
            refine C _ _ ⟨⟨_,bw.o⟩,rfl⟩ _ (fun _ h=>h) ⟨⟨_,bw.o⟩,rfl⟩ ?_
           all_goals
            refine Aw ?_;intro KK C;rw[AC (by rfl)];go_wp2_with fail
            refine C _ _ ⟨⟨_,bw.o⟩,rfl⟩ _ (fun _ h=>h) ⟨⟨_,bw.o⟩,rfl⟩ ?_;refine Aw ?_;intro KK C;rw[AC (by rfl)];refine L9 (.tmp 94) (.tmp 101) _ rfl underlying23 wc.heap.size _ _ rfl I.o.nn w8'.heap.size 1 _ rfl ee.o (by have:=eb.o;have:=bz.o;unfold Gm.gY;rw[Bh];omega) I.o.w.size ?_;intro v2' w10 bg ae;have A:=aA (I.o.Fm bg ae);have X:Hid (aV w10 (gA+1) v' (Gm.kl G i++[(i:Int)])):=aA (AO bv.o ae (aP bv.o I.o.nn (by decide)));have af:Hid (Below wc.heap.size wz w10/\w10.heap[wr.heap.size]?=wz.heap[wr.heap.size]?):=aA ⟨bw.o.1.grown ae I.o.w.size (fun k e=>(aM I.o.nn e).1),(qE (bw.o.2.trans Z.o) I.o.nn (by decide) ae).trans Z.o.symm⟩;obtain⟨A10,c10,rfl,_,_⟩:=aN bg;clear bg ae;obtain⟨n10,b7⟩:∃n,n=(Gm.gY G (Gm.oR G i)++[nm]).length:=⟨_,rfl⟩
            rw[<-b7]at A ⊢;clear b7;refine C _ _ ⟨⟨w10,af.o⟩,rfl⟩ _ (fun _ h=>h) ⟨⟨w10,af.o⟩,rfl⟩ ?_
            go_frame
            repeat (go_big_quiet_step (fail))
            refine Aw ?_;intro KK C;rw[AC (by rfl)];have j1:=AF w10 _ 1 _ _ _ A.o.h;have f1:=AH w10 _ 1 _ _ A.o.h;have lh:=(Ad.1 A.o.h).1;have b9:=aA (A.o.rM 1 (.slice A10 n10 c10));have cS:Hid (aV (w10.setCell ⟨H,1,none⟩ (.slice A10 n10 c10)) (gA+1) v' (Gm.kl G i++[(i:Int)])):=aA (AO X.o (aF (AJ w10 (some H)) 1 _) (aO X.o A.o.h (fun cur e=>by injection e with _ e;cases e)));have dD:wr.heap.size≠H:=fun e=>by have h1:=af.o.2.trans Z.o;rw[e,A.o.h]at h1;injection h1 with h1;injection h1 with _ h1;cases h1
            have ca:Hid (Below wc.heap.size wz (w10.setCell ⟨H,1,none⟩ (.slice A10 n10 c10))/\(w10.setCell ⟨H,1,none⟩ (.slice A10 n10 c10)).heap[wr.heap.size]?=wz.heap[wr.heap.size]?):=aA ⟨af.o.1.setCell (p:=⟨H,1,none⟩) A.o.hH _,(AU w10 ⟨H,1,none⟩ _ wr.heap.size dD).trans af.o.2⟩;clear dD;go_wp2_with fail
            refine C _ _ ⟨⟨_,ca.o⟩,rfl⟩ _ (fun _ h=>h) ⟨⟨_,ca.o⟩,rfl⟩ ?_;clear j1 f1 lh;refine Aw ?_;go_wp2;go_roundw
            case rel=>exact⟨i+1,_,hlt,by go_num,by rw[<-dy.o]at b9;exact b9,by rw[HX.o];exact cS⟩
            case measure=>simp[intOf];omega
       ·obtain rfl:i=G.rs.length:=by omega
        rw[Gm.yH]at HS;obtain⟨AK,cK,ef,_,_,_⟩:=HK.o.form;subst ef;obtain⟨ks,co⟩:∃ks,ks=Gm.kl G G.rs.length:=⟨_,rfl⟩
        rw[<-co]at HK ⊢;have cU:=aA co;have cl:Hid (ks.length=(Gm.iC G).length):=aA (by rw[co];exact Gm.ux G);have dE:(ks.length:Int)<=9223372036854775807:=by have:=cl.o;have:=Gm.mm G;have:=aq.o;omega
        clear co hlt;have q2:=aY (br.o wr HS.o.w);have lq:=Bj q2;go_wp2;go_loopw [13] (fun vk wr=>∃(k:Nat) (vR:Value),k<=ks.length/\vk=.int .i64 k/\Hid (ju wc wr H gA #[vT,vN,vR,.int .i64 0] vT vN vR G.ts (Gm.gY G (Gm.fu G)) (((Gm.iC G).take k).map (Gm.re (Gm.fu G))) (Gm.od G.ns.length (Gm.fu G)))/\Hid (aV wr (gA+1) (.slice AK ks.length cK) ks)) (fun vk _=>ks.length-(intOf vk).toNat)
        case atStart=>exact⟨0,_,AV _,rfl,HS,HK⟩
        case round =>
         clear HS HK q2 lq;obtain⟨k,vR,hk,rfl,HS,HK⟩:=hrel;obtain⟨ws,eg⟩:∃y:World,y=wr:=⟨_,rfl⟩
         subst eg;have am:=aA (fun(y:World) (h:Below wc.heap.size wc y)=>F.o.trans (h.mono F.o.size));by_cases hlt:k<ks.length
         ·obtain⟨gk,ok,rfl,fd,dF⟩:=HK.o.wW (by omega);have kk:=dF k hlt;rw[L.fy hlt]at kk;have lk:=Bj kk;obtain⟨i,dG,hi,hkk,dH⟩:=Gm.uw (G:=G) (k:=k) (by rw[<-cU.o];exact hlt);have cb:ks[k]=(i:Int):=by simp only[cU.o];exact dG
          rw[cb]at kk;have dI:=aA (Gm.pR hkk);have dJ:(Gm.iC G)[k]∈Gm.iC G:=AE hkk;rw[dH]at dI dJ;have ac:G.rs[i]∈G.rs:=AE hi;have e:=df.o.r _ ac;have a9:=N.o.iT _ ac;have dK:=aA (N.o.sin _ ac);have cL:=(Gm.fJ (N.o.rr _ ac)).1;obtain⟨g,o,rfl,ea,hc⟩:=de.o w1 bo.o (by omega);obtain⟨k0,⟨A',c',k1,_,_,b4⟩,k2⟩:=hc i hi;have a6:g<w1.heap.size:=by have:=HB.o;have:=bp.o;omega
          have dL:=aA (fun(y:World) (h:Below wc.heap.size wc y)=>b4.fp fun g o hg=>(am.o y h).cell (p:=⟨g,o,none⟩) (by have:=HB.o;have:=bp.o;simp only;omega));have eh:Hid (((Gm.iC G).take k).length<=40):=aA (by rw[Bd];have:=Gm.mm G;have:=aq.o;omega);have cn:=aA e.2.2;generalize G.rs[i]=x at *;obtain⟨l,r,pz⟩:=x;simp only at k0 k1 k2 dL dK cL a9 cn;obtain⟨ml,rfl⟩:∃m:Nat,l=(m:Int):=⟨l.toNat,by omega⟩
          have cM:=a9.2;have J:ml<G.ns.length:=by omega
          have fe:(r.length:Int)<=9223372036854775807:=by omega
          have ff:(i:Int)<(G.rs.length:Int):=by omega
          have dM:Hid (Gm.re (Gm.fu G) ⟨ml,r,pz⟩=⟨Gm.pos (Gm.fu G) ml,r.map (Gm.mc (Gm.fu G)),pz⟩):=aA rfl;have ei:=aA (fun(i:Nat) (hi:i<G.ns.length)=>Gm.y9 N.o (Gm.fu G) (Gm.oV N.o) G.ns.length i hi);go_upto_region 25 with fail
          have a1:=aA (fun(y:World) (h:Below ws.heap.size ws y)=>HS.o.w.trans (h.mono HS.o.w.size));have b0:=fun y:Calm.On ws.heap.size ws=>((am.o y.1 (a1.o y.1 y.2)).cell (p:=⟨g,o+i*3,none⟩) a6).trans k0;have b1:=fun y:Calm.On ws.heap.size ws=>((am.o y.1 (a1.o y.1 y.2)).cell (p:=⟨g,o+i*3+1,none⟩) a6).trans k1;have b2:=fun y:Calm.On ws.heap.size ws=>((am.o y.1 (a1.o y.1 y.2)).cell (p:=⟨g,o+i*3+2,none⟩) a6).trans k2;have bk:=fun y:Calm.On ws.heap.size ws=>(y.2.cell (p:=⟨gk,ok+k,none⟩) lk).trans kk;have bq:=fun y:Calm.On ws.heap.size ws=>aY (br.o y.1 (a1.o y.1 y.2));have ag:Hid (Below ws.heap.size ws ws.drew):=aA (aB (AB _ _) 1);clear kk dF hc b4 hkk dH dG cb dJ ac e a9 k0 k1 k2;refine CalmN.fk (fun x=>∃y:Calm.On ws.heap.size ws,x=y.1) (.one [0,1,2,3,4,5,6,7] 8 (.one [] 9 (.fin []))) (by kernel_rfl) (by kernel_rfl) (fun _ _ d _ _ h=>by cases d <;> exact h) ⟨⟨ws.drew,ag.o⟩,rfl⟩ ?_;simp only[CalmN.fN,CalmN.fv,CalmN.fo,Az,Am,Ap];repeat (go_big_quiet_step (fail))
          refine Aw ?_;clear b0 b1 b2 bk bq;obtain⟨wd,al⟩:∃y,y=ws.drew:=⟨_,rfl⟩
          have a2:Hid (wd.heap.size=ws.heap.size):=aA (by rw[al];rfl);rw[<-al]at ag ⊢;clear al;have ah:=ag.o.alloc ag.o.size (.cells #[.int .i64 0,.slice none 0 0,.int .i64 0] 48);intro KK C;rw[AC (by rfl)];go_wp2_with fail
          refine C _ _ ⟨⟨_,ah⟩,rfl⟩ _ (fun _ h=>h) ⟨⟨_,ah⟩,rfl⟩ ?_;refine Aw ?_;have hx:=AG wd (.cells #[.int .i64 0,.slice none 0 0,.int .i64 0] 48);obtain⟨D,hD⟩:∃D,D=wd.heap.size:=⟨_,rfl⟩
          have bh:Hid (ws.heap.size<=D):=aA (by have:=a2.o;omega);rw[<-hD]at hx ⊢;obtain⟨wa,cc⟩:∃y,y=wd.alloc (.cells #[.int .i64 0,.slice none 0 0,.int .i64 0] 48):=⟨_,rfl⟩
          rw[<-cc]at hx ah ⊢;clear cc C hD a2;have ai:=AZ wa D 0 _ _ (.int .i64 ml) hx;have aj:=AZ _ D 1 _ _ (.slice A' r.length c') ai;have M:=AZ _ D 2 _ _ (.int .i64 pz) aj;have f:=((ah.setCell (p:=⟨D,0,none⟩) bh.o (.int .i64 ml)).setCell (p:=⟨D,1,none⟩) bh.o (.slice A' r.length c')).setCell (p:=⟨D,2,none⟩) bh.o (.int .i64 pz);have d0:=AF wa _ 0 _ _ _ hx;have d1:=AF wa _ 1 _ _ _ hx;have d2:=AF wa _ 2 _ _ _ hx;have f0:=AH wa _ 0 _ _ hx;have f1:=AH wa _ 1 _ _ hx;have f2:=AH wa _ 2 _ _ hx;have ld:=(Ad.1 hx).1;clear ai aj ah hx;intro KK C;rw[AC (by rfl)];go_wp2_with fail
          obtain⟨we,dN⟩:∃y,y=((wa.setCell ⟨D,0,none⟩ (.int .i64 ml)).setCell ⟨D,1,none⟩ (.slice A' r.length c')).setCell ⟨D,2,none⟩ (.int .i64 pz):=⟨_,rfl⟩
          rw[<-dN]at M f ⊢;refine C _ _ ⟨⟨we,f⟩,rfl⟩ _ (fun _ h=>h) ⟨⟨we,f⟩,rfl⟩ ?_;have ar:Hid (we.heap[D]?=some (.cells #[.int .i64 ml,.slice A' r.length c',.int .i64 pz] 48 (0,0))):=aA M;have cp:=aA f;clear d0 d1 d2 f0 f1 f2 ld M f dN C ag;refine Aw ?_;go_upto_region 26 with fail
          have ej:=(Ad.1 ar.o).1;have b0:=fun y:Calm.On we.heap.size we=>aS (aC y.2 ar.o);have b2:=fun y:Calm.On we.heap.size we=>aY (aC y.2 ar.o);obtain⟨tl,cV⟩:∃z,z=Gm.pos (Gm.fu G) (ml:Int):=⟨_,rfl⟩
          have kt:=(cp.o.cell (p:=⟨gA,ml,none⟩) HS.o.a.lt).trans (HS.o.a.cell ml (by rw[Gm.mu];exact J));rw[Gm.nj J,<-cV]at kt;rw[<-cV]at dM;clear cV;have bt:=fun y:Calm.On we.heap.size we=>(y.2.cell (p:=⟨gA,ml,none⟩) (Bj kt)).trans kt;have ag:Hid (Below we.heap.size we we.drew):=aA (aB (AB _ _) 1);refine CalmN.fk (fun x=>∃y:Calm.On we.heap.size we,x=y.1) (.one [0,1,2,3,4,5,6,7] 8 (.one [] 9 (.fin []))) (by kernel_rfl) (by kernel_rfl) (fun _ _ d _ _ h=>by cases d <;> exact h) ⟨⟨we.drew,ag.o⟩,rfl⟩ ?_;simp only[CalmN.fN,CalmN.fv,CalmN.fo,Az,Am,Ap];repeat (go_big_quiet_step (fail))
          refine Aw ?_;clear b0 b2 bt kt;obtain⟨wd2,al⟩:∃y,y=we.drew:=⟨_,rfl⟩
          have a2:Hid (wd2.heap.size=we.heap.size):=aA (by rw[al];rfl);rw[<-al]at ag ⊢;clear al;have ah:=ag.o.alloc ag.o.size (.cells #[.int .i64 0,.slice none 0 0,.int .i64 0] 48);intro KK C;rw[AC (by rfl)];go_wp2_with fail
          refine C _ _ ⟨⟨_,ah⟩,rfl⟩ _ (fun _ h=>h) ⟨⟨_,ah⟩,rfl⟩ ?_;refine Aw ?_;have hx:=AG wd2 (.cells #[.int .i64 0,.slice none 0 0,.int .i64 0] 48);obtain⟨E,hE⟩:∃E,E=wd2.heap.size:=⟨_,rfl⟩
          have a3:Hid (we.heap.size<=E/\D<E):=aA (by have:=a2.o;omega);rw[<-hE]at hx ⊢;obtain⟨wa2,cc⟩:∃y,y=wd2.alloc (.cells #[.int .i64 0,.slice none 0 0,.int .i64 0] 48):=⟨_,rfl⟩
          rw[<-cc]at hx ah ⊢;clear cc C hE a2;have ai:=AZ wa2 E 0 _ _ (.int .i64 tl) hx;have aj:=AZ _ E 1 _ _ (.slice none 0 0) ai;have M:=AZ _ E 2 _ _ (.int .i64 pz) aj;have f:=((ah.setCell (p:=⟨E,0,none⟩) a3.o.1 (.int .i64 tl)).setCell (p:=⟨E,1,none⟩) a3.o.1 (.slice none 0 0)).setCell (p:=⟨E,2,none⟩) a3.o.1 (.int .i64 pz);have d0:=AF wa2 _ 0 _ _ _ hx;have d1:=AF wa2 _ 1 _ _ _ hx;have d2:=AF wa2 _ 2 _ _ _ hx;have f0:=AH wa2 _ 0 _ _ hx;have f1:=AH wa2 _ 1 _ _ hx;have f2:=AH wa2 _ 2 _ _ hx;have ld:=(Ad.1 hx).1;clear ai aj ah hx;intro KK C;rw[AC (by rfl)];go_wp2_with fail
          obtain⟨wf,dO⟩:∃y,y=((wa2.setCell ⟨E,0,none⟩ (.int .i64 tl)).setCell ⟨E,1,none⟩ (.slice none 0 0)).setCell ⟨E,2,none⟩ (.int .i64 pz):=⟨_,rfl⟩
          rw[<-dO]at M f ⊢;refine C _ _ ⟨⟨wf,f⟩,rfl⟩ _ (fun _ h=>h) ⟨⟨wf,f⟩,rfl⟩ ?_;have aw:Hid (wf.heap[E]?=some (.cells #[.int .i64 tl,.slice none 0 0,.int .i64 pz] 48 (0,0))):=aA M;have dP:=aA (aC f ar.o);have ay:=aA (cp.o.trans (f.mono cp.o.size));have ek:Hid (E<wf.heap.size):=aA (Ad.1 M).1;clear d0 d1 d2 f0 f1 f2 ld M f dO C ag ar cp ej;refine Aw ?_;go_wp2;go_loopw [16] (fun vj wr=>∃(j:Nat) (vx:Value),j<=r.length/\vj=.int .i64 j/\Hid (Below ws.heap.size ws wr)/\Hid (wr.heap[D]?=some (.cells #[.int .i64 ml,.slice A' r.length c',.int .i64 pz] 48 (0,0)))/\Hid (wr.heap[E]?=some (.cells #[.int .i64 tl,vx,.int .i64 pz] 48 (0,0)))/\Hid (aV wr (E+1) vx ((r.take j).map (Gm.mc (Gm.fu G))))) (fun vj _=>r.length-(intOf vj).toNat)
          case atStart=>exact⟨0,_,AV _,rfl,ay,dP,aw,aA (aV.nil _ _)⟩
          case round =>
           clear ay dP aw ek;obtain⟨j,vx,hj,rfl,bi,cW,ap,bj⟩:=hrel;obtain⟨Ax,cx,el,_,_,_⟩:=bj.o.form;subst el;have d1:=aX cW.o;have ld:=Bj d1;have fg:=(Ad.1 ap.o).1;by_cases aa:j<r.length
           ·obtain⟨g5,o5,rfl,a5,dQ⟩:=dL.o wr (a1.o wr bi.o) (by omega);have k5:=dQ j aa;rw[L.fy aa]at k5;have l5:=Bj k5;have cX:=dK.o _ (AE aa);have cY:=cn.o _ (AE aa);have HT:Hid ((r.take (j+1)).map (Gm.mc (Gm.fu G))=(r.take j).map (Gm.mc (Gm.fu G))++[Gm.mc (Gm.fu G) r[j]]):=aA (by rw[AL aa,Bf,EF]);have em:Hid (((r.take j).map (Gm.mc (Gm.fu G))).length<=1000):=aA (by rw[Bh,Bd];omega);have fh:=aA (fun u=>bi.o.setCell (p:=⟨E,1,none⟩) (by have:=a3.o;have:=bh.o;simp only;omega) u);have eo:D≠E:=by have:=a3.o;omega
            have ep:Hid (∀k,E+1<=k->ws.heap.size<=k):=aA (fun k h=>by have:=a3.o.2;have:=bh.o;omega);unfold Gm.In at cY;generalize r[j]=z at *;obtain⟨lx,bl⟩:∃n,n=((r.take j).map (Gm.mc (Gm.fu G))).length:=⟨_,rfl⟩
            rw[<-bl]at ap bj;have dR:=aA bl;have e1:=aX ap.o;clear dQ bl;by_cases hz:z<0
            focus
             obtain⟨q,hq⟩:∃q:Nat,-1-z=(q:Int):=⟨(-1-z).toNat,by omega⟩
             have er:=cX hz;rw[hq]at er;have es:=ei.o q (by omega);have kt:=(bi.o.cell (p:=⟨gA,q,none⟩) HS.o.a.lt).trans (HS.o.a.cell q (by rw[Gm.mu];omega));have lt5:=Bj kt;have bm:Hid (Gm.mc (Gm.fu G) z = -1-(Gm.od G.ns.length (Gm.fu G)).getD q 0):=aA (by unfold Gm.mc;rw[AC hz,hq,Gm.nj (by omega)]);generalize (Gm.od G.ns.length (Gm.fu G)).getD q 0=tq at *;have et:IntKind.i64.wrap (-1-z)=(q:Int):=by rw[B3 _ (by omega)];exact hq
             have a2:decide (z<0)=true:=AQ hz;obtain⟨u,hu⟩:∃u,u = -1-tq:=⟨_,rfl⟩
             have eu:IntKind.i64.wrap (-1-tq)=u:=by rw[hu];exact B3 _ (by omega)
             rw[<-hu]at bm;rw[bm.o]at HT;clear hz hq cY cX es hu bm
            rotate_left
            focus
             have bm:Hid (Gm.mc (Gm.fu G) z=z):=aA (by unfold Gm.mc;rw[AI hz]);have a2:decide (z<0)=false:=AM hz;obtain⟨u,hu⟩:∃u,u=z:=⟨_,rfl⟩
             rw[<-hu]at bm k5 a2;rw[<-hu,bm.o]at HT;clear hz cY cX hu bm
            all_goals
             have ev:Hid (∀y:World,(wr.alloc (.cells #[.int .i64 u] 3)).grownBy y (Value.slice Ax lx cx).ownBlock->y.heap[D]?=some (.cells #[.int .i64 ml,.slice (some ⟨g5,o5,none⟩) r.length c',.int .i64 pz] 48 (0,0))/\y.heap[E]?=some (.cells #[.int .i64 tl,.slice Ax lx cx,.int .i64 pz] 48 (0,0))/\Below ws.heap.size ws y):=aA (by
              have cZ:aV (wr.alloc (.cells #[.int .i64 u] 3)) (E+1) (.slice Ax lx cx) ((r.take j).map (Gm.mc (Gm.fu G))):=bj.o.alloc _;have ew:(wr.alloc (.cells #[.int .i64 u] 3)).heap[D]?=some (.cells #[.int .i64 ml,.slice (some ⟨g5,o5,none⟩) r.length c',.int .i64 pz] 48 (0,0)):=(Bs wr _ D (Ad.1 cW.o).1).trans cW.o;have ex:(wr.alloc (.cells #[.int .i64 u] 3)).heap[E]?=some (.cells #[.int .i64 tl,.slice Ax lx cx,.int .i64 pz] 48 (0,0)):=(Bs wr _ E (Ad.1 ap.o).1).trans ap.o;have dS:Below ws.heap.size ws (wr.alloc (.cells #[.int .i64 u] 3)):=bi.o.alloc bi.o.size _;intro y h;have c4:=Bk cZ;exact⟨qE ew cZ (by decide) h,qE ex cZ (by decide) h,dS.grown h dS.size (fun k e=>ep.o k (c4 k e).1)⟩)
             have ey:Hid (aV (wr.alloc (.cells #[.int .i64 u] 3)) (E+1) (.slice Ax lx cx) ((r.take j).map (Gm.mc (Gm.fu G)))):=aA (bj.o.alloc _);have ez:Hid (E+1<=(wr.alloc (.cells #[.int .i64 u] 3)).heap.size):=aA (by simp;omega);have eA:Hid (ws.heap.size<=E):=aA (by have:=a3.o;have:=bh.o;omega);have eB:Hid (E<E+1):=aA (Nat.lt_succ_self E);have eC:Hid (((r.take j).map (Gm.mc (Gm.fu G))).length<=1000000000000):=aA (by have:=em.o;omega);go_wp2_with (at_builtin;(go_loud (refine xQ rfl (.tmp 147) (.tmp 149) _ rfl underlying38 (E+1) _ _ rfl ey.o _ 1 u rfl (C8 _ _ _ 0) eC.o ez.o ?_));intro v6 w6 cq dT;rw[<-HT.o]at cq;obtain⟨dU,dV,dW⟩:=ev.o w6 dT;have eD:=aA dU;have cr:=aA dV;have eE:=aA dW;have b3:=aA cq;obtain⟨A6,c6,eF,_,_,_⟩:=cq.form;subst eF;obtain⟨n6,cd⟩:∃n,n=((r.take (j+1)).map (Gm.mc (Gm.fu G))).length:=⟨_,rfl⟩;rw[<-cd]at b3 ⊢;have e1':w6.cell? ⟨E,1,none⟩=some (.slice Ax lx cx):=(AF w6 _ 1 _ _ _ cr.o).trans rfl;have f1':=AH w6 _ 1 _ _ cr.o;have l1':=(Ad.1 cr.o).1;have eG:=aA (eE.o.setCell (p:=⟨E,1,none⟩) eA.o (.slice A6 n6 c6));have eH:=aA ((AU w6 ⟨E,1,none⟩ (.slice A6 n6 c6) D eo).trans eD.o);have eI:=aA (AZ w6 E 1 _ _ (.slice A6 n6 c6) cr.o);have eJ:Hid (aV (w6.setCell ⟨E,1,none⟩ (.slice A6 n6 c6)) (E+1) (.slice A6 n6 c6) ((r.take (j+1)).map (Gm.mc (Gm.fu G)))):=aA (b3.o.jr (aF (AJ w6 (some E)) 1 _) eB.o);clear cq dT cd dU dV dW)
             go_roundw
             case rel=>exact⟨j+1,_,aa,by go_num,eG,eH,eI,eJ⟩
             case measure=>simp[intOf];omega
           ·obtain rfl:j=r.length:=by omega
            rw[Bn]at bj ap;have cs:=aA (HS.o.below bi.o);have eK:=aA (HK.o.below bi.o (Af _));have eL:=xi cs.o.r;obtain⟨AR5,cR5,rfl,_,_⟩:=eL;obtain⟨lR,dX⟩:∃n,n=(((Gm.iC G).take k).map (Gm.re (Gm.fu G))).length:=⟨_,rfl⟩
            obtain⟨lx,bl⟩:∃n,n=(r.map (Gm.mc (Gm.fu G))).length:=⟨_,rfl⟩
            rw[<-dX]at cs;rw[<-bl]at ap bj;have dR:=aA bl;have j2:=aY cs.o.h;have lh:=Bj j2;have e0:=aS ap.o;have e1:=aX ap.o;have e2:=aY ap.o;obtain⟨Ay,cy,hy,ry1,ry2,ce⟩:=bj.o.row (B:=wc.heap.size) (by have:=a3.o;have:=bh.o;have:=HS.o.w.size;omega);injection hy with eM eN eO;subst eM eO;have cu:=aA (cs.o.alloc (.cells #[.int .i64 tl,.slice Ax lx cx,.int .i64 pz] 48));have dY:=aA (eK.o.alloc (.cells #[.int .i64 tl,.slice Ax lx cx,.int .i64 pz] 48));have c5:=aA ((ce.grown (Dh wr (.cells #[.int .i64 tl,.slice Ax lx cx,.int .i64 pz] 48) none) (fun g e=>by cases e)).more (show wr.heap.size<=(wr.alloc (.cells #[.int .i64 tl,.slice Ax lx cx,.int .i64 pz] 48)).heap.size by simp))
            have eP:Hid (∀j u,(pC (⟨tl,r.map (Gm.mc (Gm.fu G)),pz⟩,Ax,cx))[j]?=some u->(wr.alloc (.cells #[.int .i64 tl,.slice Ax lx cx,.int .i64 pz] 48)).cell? ⟨wr.heap.size,j,none⟩=some u):=aA (fun j u hj=>by
             have h:=tS wr [.int .i64 tl,.slice Ax lx cx,.int .i64 pz] 48 j;rw[dR.o]at h ⊢;exact h.trans hj)
            have cf:=aA (BD ry1 ry2);have c7:Hid ((((Gm.iC G).take k).map (Gm.re (Gm.fu G))).length<=1000000):=aA (by rw[Bh];have:=eh.o;omega);clear dX bl eN ry1 ry2 ce;go_wp2_with (at_builtin;(go_loud (refine K5 rfl (.tmp 153) (.tmp 155) _ rfl underlying24 wc.heap.size _ (.slice AR5 lR cR5) _ rfl cu.o.r _ _ (⟨tl,r.map (Gm.mc (Gm.fu G)),pz⟩,Ax,cx) rfl eP.o ⟨cf.o.1,cf.o.2,c5.o⟩ c7.o cu.o.w.size (Af _) ?_));intro v5 w5 az a5;rw[<-dM.o,<-dI.o]at az;have bx:=aA (cu.o.yQ az a5);have dZ:Hid (aV w5 (gA+1) (.slice (some ⟨gk,ok,none⟩) ks.length cK) ks):=aA (by obtain⟨qs,_,h2,_⟩:=id cu.o.r;exact AO dY.o a5 (aP dY.o h2 (by decide)));obtain⟨A6,c6,rfl,_,_⟩:=xi az;obtain⟨n6,cd⟩:∃n,n=(((Gm.iC G).take (k+1)).map (Gm.re (Gm.fu G))).length:=⟨_,rfl⟩;rw[<-cd]at bx ⊢;have j2':=AF w5 _ 2 _ _ _ bx.o.h;have f2':=AH w5 _ 2 _ _ bx.o.h;have lh':=(Ad.1 bx.o.h).1;have eQ:=aA (bx.o.rM 2 (.slice A6 n6 c6));have eR:Hid (aV (w5.setCell ⟨H,2,none⟩ (.slice A6 n6 c6)) (gA+1) (.slice (some ⟨gk,ok,none⟩) ks.length cK) ks):=aA (AO dZ.o (aF (AJ w5 (some H)) 2 _) (aO dZ.o bx.o.h (fun cur e=>by injection e with _ e;cases e)));clear az a5 cd)
            go_roundw
            case rel=>exact⟨k+1,_,hlt,by go_num,eQ,eR⟩
            case measure=>simp[intOf];omega
         ·obtain rfl:k=ks.length:=by omega
          rw[cl.o,Bn]at HS;obtain⟨AT5,cT5,rfl,_,_⟩:=aN HS.o.t;obtain⟨AN5,cN5,rfl,_,_⟩:=aN HS.o.nn;obtain⟨AR5,cR5,rfl,_,_⟩:=xi HS.o.r;have HP:Hid ((Gm.od G.ns.length (Gm.fu G)).getD m 0=Gm.pos (Gm.fu G) G.st):=aA (by rw[Gm.nj cC,<-HM.o]);have q3:=bI (br.o ws HS.o.w);rw[HM.o]at q3;have km:=HS.o.a.cell m (by rw[Gm.mu];exact cC);rw[HP.o]at km;have la:=HS.o.a.lt;have lq:=Bj q3;have j3:=AF ws _ 3 _ _ _ HS.o.h;have f3:=AH ws _ 3 _ _ HS.o.h;have lh:=(Ad.1 HS.o.h).1;obtain⟨pp,c8⟩:∃z,z=Gm.pos (Gm.fu G) G.st:=⟨_,rfl⟩
          rw[<-c8]at km;have eS:=aA c8;have ad:=aA (HS.o.rM 3 (.int .i64 pp));have da:Hid (aV (ws.setCell ⟨H,3,none⟩ (.int .i64 pp)) (gA+1) (.slice AK ks.length cK) ks):=aA (AO HK.o (aF (AJ ws (some H)) 3 _) (aO HK.o HS.o.h (fun cur e=>by injection e with _ e;cases e)));obtain⟨wy,db⟩:∃y,y=ws.setCell ⟨H,3,none⟩ (.int .i64 pp):=⟨_,rfl⟩
          rw[<-db]at ad da;clear c8 HP;go_upto_region 36 with fail
          rw[<-db];clear db q3 km la lq j3 f3 lh;have j0:=aS ad.o.h;have j1:=aX ad.o.h;have j2:=aY ad.o.h;have j3:=bI ad.o.h;have lh:=(Ad.1 ad.o.h).1;have ak:=F.o.trans (ad.o.w.mono F.o.size);have g0:=aS (HZ.o wy ak);have g1:=aX (HZ.o wy ak);have g2:=aY (HZ.o wy ak);have g3:=bI (HZ.o wy ak);have e0:=AH wy _ 0 _ _ (HZ.o wy ak);have e1:=AH wy _ 1 _ _ (HZ.o wy ak);have e2:=AH wy _ 2 _ _ (HZ.o wy ak);have e3:=AH wy _ 3 _ _ (HZ.o wy ak);have lz:=(Ad.1 (HZ.o wy ak)).1;have ay:=aA (fun u1 u2 u3 u4=>((((ax.o wy ak).setCell (p:=⟨w.heap.size+1,0,none⟩) (by simp only;omega) u1).setCell (p:=⟨w.heap.size+1,1,none⟩) (by simp only;omega) u2).setCell (p:=⟨w.heap.size+1,2,none⟩) (by simp only;omega) u3).setCell (p:=⟨w.heap.size+1,3,none⟩) (by simp only;omega) u4);have dc:=aF (aF (aF (aF (AJ wy (some (w.heap.size+1))) 0 (.slice AT5 G.ts.length cT5)) 1 (.slice AN5 (Gm.gY G (Gm.fu G)).length cN5)) 2 (.slice AR5 ((Gm.iC G).map (Gm.re (Gm.fu G))).length cR5)) 3 (.int .i64 pp);have eT:w.heap.size+1<wc.heap.size:=by have:=F.o.size;have:=bp.o;omega
          have d3:Gm.reduce G=⟨G.ts,Gm.gY G (Gm.fu G),(Gm.iC G).map (Gm.re (Gm.fu G)),pp⟩:=by rw[eS.o];rfl
          have eU:=aA ((show vD wy wc.heap.size (.agg #[.slice AT5 G.ts.length cT5,.slice AN5 (Gm.gY G (Gm.fu G)).length cN5,.slice AR5 ((Gm.iC G).map (Gm.re (Gm.fu G))).length cR5,.int .i64 pp]) (Gm.reduce G) from by rw[d3];exact⟨_,_,_,rfl,ad.o.t,ad.o.nn,ad.o.r⟩).grown dc (fun g e=>by injection e with e;omega));have eV:=aA (da.o.jr dc (by have:=ad.o.hA;omega));generalize Gm.gY G (Gm.fu G)=nms at *;generalize (Gm.iC G).map (Gm.re (Gm.fu G))=tN at *;clear dc d3 eT ak HS ad HK da;go_wp2;refine B8 (v:=.tuple #[.agg #[.slice AT5 G.ts.length cT5,.slice AN5 nms.length cN5,.slice AR5 tN.length cR5,.int .i64 pp],.slice AK ks.length cK,.int .i64 0]) (by simp[results,results36,go_sem,g0,g1,g2,g3]) rfl ?_;exact sN.ok HE.o cU.o eU.o.rd eV.o.wW (ay.o _ _ _ _)
theorem Rs (v:Value) (G:Gm.Gr) (B:Nat) (w:World) (hg:aT w B v G) (hf:Gm.Fit G) (hB:B<=w.heap.size) :
  Calls prog 18 #[v] w fun e w'=>e=.returned (.bool (Gm.jE G))/\Below w.heap.size w w':=by
 have H1:=aA (fun(x:World) (h:Below w.heap.size w x)=>Nt v G B x (hg.below h hB) hf (Aj hB h.size));have H2:=aA (fun(x:World) (h:Below w.heap.size w x) (u:Value) (B':Nat) (hu:aT x B' u (Gm.nV G)) (ag:B'<=x.heap.size)=>Kn v u G (Gm.nV G) B B' x (hg.below h hB) hu hf (Gm.sH hf) (Aj hB h.size) ag);have ah:=Gm.uP G;have HI:Hid (Gm.jE G=(decide (Gm.nB G=0)&&Gm.same G (Gm.nV G))):=aA rfl;obtain⟨AT,cT,AN,cN,AR,cR,rfl,_⟩:=hg;have aa:=aA (One.start w #[.slice AT G.ts.length cT,.slice AN G.ns.length cN,.slice AR G.rs.length cR,.int .i64 G.st]);unfold sN at H1;generalize Gm.xL G=L at *;generalize Gm.nB G=er at *;generalize Gm.nV G=RG at *;clear hf;by_cases he:er=0
 ·have HX:Hid (Gm.jE G=Gm.same G RG):=aA (by rw[HI.o,AQ he];rfl);subst he;clear ah HI
  go_enter func18,ntmps18
  go_wp2_with fail
  refine(H1.o _ aa.o.below).mono ?_;rintro _ w2 ⟨g,A,c,rfl,ab,ad,d⟩;have ac:=aA (aa.o.on d);have ai:=aA ab;obtain⟨A0,d0,A1,d1,A2,d2,rfl,_⟩:=ab;have ae:=aA (One.start w2 #[.slice A0 RG.ts.length d0,.slice A1 RG.ns.length d1,.slice A2 RG.rs.length d2,.int .i64 RG.st]);have b:=aA (ac.o.on ae.o.below);have x0:=b.o.c 0 _ rfl;have x1:=b.o.c 1 _ rfl;have x2:=b.o.c 2 _ rfl;have x3:=b.o.c 3 _ rfl;have ak:w.heap.size<w2.heap.size:=ac.o.size;clear ad d;go_wp2_with fail
  refine(H2.o _ b.o.below _ w2.heap.size (ai.o.below ae.o.below (Af _)) ae.o.below.size).mono ?_;rintro _ w4 ⟨rfl,af⟩;have aj:=aA (b.o.on af);clear af x0 x1 x2 x3;go_wp2;go_ret
  exact⟨by rw[HX.o];rfl,aj.o.below⟩
 ·have HX:Hid (Gm.jE G=false):=aA (by rw[HI.o,AM he];rfl);have al:(er==0)=false:=by simpa using he
  clear HI H2
  go_enter func18,ntmps18
  go_wp2_with fail
  refine(H1.o _ aa.o.below).mono ?_;rintro _ w2 ⟨g,A,c,rfl,ab,ad,d⟩;have ac:=aA (aa.o.on d);obtain⟨A0,d0,A1,d1,A2,d2,rfl,_⟩:=ab;clear ad d;go_wp2;go_ret
  exact⟨by rw[HX.o];rfl,(ac.o.alloc _).below⟩
end Go.Proofs.YtcmhaemaophplaaGreat
