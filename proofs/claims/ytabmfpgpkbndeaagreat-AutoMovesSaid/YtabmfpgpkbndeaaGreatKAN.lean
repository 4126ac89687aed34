/- Part of the proofs over this program: ShowBld2, CfgName, RfA, RfPut, RfClos, RfEq. -/
import Derived.Test.YtabmfpgpkbndeaaGreatKAL
namespace Go.Proofs.YtabmfpgpkbndeaaGreat
set_option maxRecDepth 100000
set_option maxHeartbeats 40000000
namespace Gm
theorem put_there {ts:List Tm} {x:Tok} (h:0≤find (names ts) x.t):put ts x=.ok (ts,find (names ts) x.t):=by
 unfold put;rw[if_pos h]
end Gm
end Go.Proofs.YtabmfpgpkbndeaaGreat
namespace Go.Proofs.YtabmfpgpkbndeaaGreat
set_option maxRecDepth 100000
set_option maxHeartbeats 40000000
open Go.RowKit
def zjA (rs:List Gm.Rl) (k:Nat):Prop:=∀i (h:i<rs.length),i<k→rs[i].r.length≤20
theorem zba (v:Value) (G:Gm.Gr) (B:Nat) (w:World) (hg:aT w B v G) (hB:B≤w.heap.size) :
  Calls Tryz.prog 9 #[v] w fun e w'=>e=.returned (.bool (Gm.great G))∧Below w.heap.size w w':=by
 have HB:=aA (fun o=>(Below.refl w.heap.size w).alloc (Nat.le_refl _) o)
 obtain⟨AT,cT,AN,cN,AR,cR,rfl,⟨hlT,hmT⟩,⟨hlN,hmN⟩,⟨hlR,hmR⟩,_,_,hr⟩:=hg
 have HR:=aA hr
 clear hr
 unfold Gm.great
 by_cases h1:40<G.ts.length
 ·rw[decide_eq_true h1]
  go_enter Tryz.func9,Tryz.ntmps9
  go_wp2
  go_ret
  exact⟨rfl,HB.out _⟩
 by_cases h2:40<G.ns.length
 ·rw[decide_eq_true h2]
  simp only[Bool.or_true,Bool.true_or]
  go_enter Tryz.func9,Tryz.ntmps9
  go_wp2
  go_ret
  exact⟨rfl,HB.out _⟩
 by_cases h3:60<G.rs.length
 ·rw[decide_eq_true h3]
  simp only[Bool.or_true,Bool.true_or]
  go_enter Tryz.func9,Tryz.ntmps9
  go_wp2
  go_ret
  exact⟨rfl,HB.out _⟩
 rw[decide_eq_false h1,decide_eq_false h2,decide_eq_false h3]
 simp only[Bool.false_or]
 have hlen:G.rs.length≤60:=by omega
 go_enter Tryz.func9,Tryz.ntmps9
 go_wp2
 go_loop [3] (fun vi=>∃(k:Nat),k≤G.rs.length∧vi=.int .i64 k∧zjA G.rs k) (fun vi=>G.rs.length-(intOf vi).toNat)
 case atStart=>exact⟨0,Nat.zero_le _,rfl,fun _ _ h=>by omega⟩
 case round =>
  obtain⟨k,hk,rfl,hn⟩:=hrel
  have HN:=aA hn
  clear hn
  by_cases hlt:k<G.rs.length
  ·obtain⟨g,o,rfl,hgb,hc⟩:=HR.out (by omega)
   obtain⟨_,⟨A',c',k1,k2,k3,_⟩,_⟩:=hc k hlt
   have hgs:g<w.heap.size:=by omega
   by_cases hx:20<G.rs[k].r.length
   ·have HE:Hid ((G.rs.any fun r=>decide (20<r.r.length))=true):=aA (List.any_eq_true.2 ⟨_,List.getElem_mem hlt,by simpa using hx⟩)
    generalize G.rs[k].r.length=m at *
    clear hc
    go_wp2
    go_ret
    exact⟨aC HE.out.symm,HB.out _⟩
   ·have HE:Hid (zjA G.rs (k+1)):=aA (fun i hi hik=>by
     rcases Nat.lt_or_ge i k with q|q
     ·exact HN.out i hi q
     ·obtain rfl:i=k:=by omega
      omega)
    generalize G.rs[k].r.length=m at *
    clear hc
    go_wp2
    go_round
    case rel=>exact⟨k+1,by omega,by go_num,HE.out⟩
    case measure=>simp[intOf];omega
  ·obtain rfl:k=G.rs.length:=by omega
   have HE:Hid ((G.rs.any fun r=>decide (20<r.r.length))=false):=aA (by
    rw[List.any_eq_false]
    intro x hx
    obtain⟨i,hi,rfl⟩:=List.getElem_of_mem hx
    have:=HN.out i hi hi
    simp;omega)
   go_wp2
   go_ret
   exact⟨aC HE.out.symm,HB.out _⟩
def zbU (L:List Int) (w:World) (e:Ending) (w':World):Prop:=∃A c,e=.returned (.slice A L.length c)∧L.length≤c∧c≤9223372036854775807∧RdI w' w'.heap.size A L∧Below w.heap.size w w'
theorem zbA (v:Value) (G:Gm.Gr) (B:Nat) (r:Int) (w:World) (hg:aT w B v G) (hf:Gm.Fit G) (hB:B≤w.heap.size) (hr:Au.rOk G r=true) :
  Calls Tryz.prog 30 #[v,.int .i64 r] w (zbU (Au.sy G r) w):=by
 have hr:=Au.rOk_iff.1 hr
 have hst:=hf.s
 unfold Gm.In at hst
 obtain⟨AT,cT,AN,cN,AR,cR,rfl,⟨hlT,hmT⟩,⟨hlN,hmN⟩,⟨hlR,hmR⟩,_,_,hR⟩:=hg
 have HS0:=aA (aZ.start 26 w #[.slice AT G.ts.length cT,.slice AN G.ns.length cN,.slice AR G.rs.length cR,.int .i64 G.st])
 have x2:=HS0.out.c 2 _ rfl
 have x3:=HS0.out.c 3 _ rfl
 unfold zbU
 by_cases h1:r = -1
 ·subst h1
  have e:Au.sy G (-1)=[-1-G.st]:=rfl
  have hw:IntKind.i64.wrap (-1-G.st) = -1-G.st:=IntWalk.i64_in _ (by omega)
  have HL:=aA (zis (w.alloc (.cells #[.slice AT G.ts.length cT,.slice AN G.ns.length cN,.slice AR G.rs.length cR,.int .i64 G.st] 26)) [-1-G.st])
  rw[e]
  clear hr hR e hf hst
  go_enter Tryz.func30,Tryz.ntmps30
  go_wp2
  go_ret
  exact⟨_,_,rfl,by simp,by simp,by simpa[zbF] using HL.out.1,HS0.out.below.trans (HL.out.2.mono (by simp))⟩
 ·obtain⟨k,rfl⟩:∃k:Nat,r=(k:Int):=⟨r.toNat,by omega⟩
  have hlt:k<G.rs.length:=by omega
  obtain⟨g,o,rfl,hgB,hc⟩:=hR (by omega)
  obtain⟨A',c',k1,hlc,hmc,hri⟩:=(hc k hlt).2.1
  have k1:=(HS0.out.below.cell (p:=⟨g,o+k*3+1,none⟩) (Nat.lt_of_lt_of_le hgB hB)).trans k1
  have HRI:=aA ((hri.below HS0.out.below hB).more (B':=w.heap.size+1) (by omega))
  have h2:((k:Int) == -1)=false:=by rw[beq_eq_false_iff_ne];omega
  have h3:(k:Int)<(G.rs.length:Int):=by omega
  rw[Au.sy_non hlt]
  clear hc hri hR hr h1 hf hst
  generalize (G.rs[k]).r=L at *
  go_enter Tryz.func30,Tryz.ntmps30
  go_wp2
  go_ret
  exact⟨_,_,rfl,hlc,hmc,by simpa using HRI.out,HS0.out.below⟩
theorem zbs (v:Value) (G:Gm.Gr) (B:Nat) (x:Au.It) (w:World) (hg:aT w B v G) (hf:Gm.Fit G) (hB:B≤w.heap.size) (hx:Au.isI G x=true) :
  Calls Tryz.prog 27 #[v,itV x] w fun e w'=>e=.returned (.tuple #[.int .i64 ((Au.nx G x).getD 0),.bool (Au.nx G x).isSome])∧Below w.heap.size w w':=by
 have hi:=Au.isI_iff.1 hx
 have HR:=aA (fun y (h:Below w.heap.size w y)=>zbA v G B x.1 y (hg.below h hB) hf (Nat.le_trans hB h.size) (Au.rOk_iff.2 hi.1))
 unfold zbU at HR
 have HI:=aA (Au.nx_at (G:=G) (x:=x) hi.2.1)
 have HO:=aA (fun(h:x.2=(Au.sy G x.1).length)=>show Au.nx G x=none from List.getElem?_eq_none (by omega))
 obtain⟨AT,cT,AN,cN,AR,cR,rfl,_⟩:=hg
 have HS0:=aA (bH.start 26 33 w #[.slice AT G.ts.length cT,.slice AN G.ns.length cN,.slice AR G.rs.length cR,.int .i64 G.st] #[.int .i64 x.1,.int .i64 x.2])
 have g0:=HS0.out.c1 0 _ rfl
 have g1:=HS0.out.c1 1 _ rfl
 have g2:=HS0.out.c1 2 _ rfl
 have g3:=HS0.out.c1 3 _ rfl
 have i0:=HS0.out.c2 0 _ rfl
 have i1:=HS0.out.c2 1 _ rfl
 have h0:=hi.2.1
 have h2:=hi.2.2
 clear hf hx hi
 generalize Au.nx G x=q at *
 generalize Au.sy G x.1=L at *
 go_enter Tryz.func27,Tryz.ntmps27
 go_wp2_with fail
 refine(HR.out _ HS0.out.below).mono ?_;rintro _ w2 ⟨A,c,rfl,hl,hm,hri,hb⟩
 have HB:=aA (HS0.out.on hb)
 have j1:=HB.out.c2 1 _ rfl
 clear hb g0 g1 g2 g3 i0 i1
 by_cases h1:x.2=(L.length:Int)
 ·have HQ:=aA (HO.out h1)
  have he:(x.2==(L.length:Int))=true:=by rw[beq_iff_eq];exact h1
  clear HO HI hri h0 h2 h1
  go_wp2
  go_ret2
  exact⟨by rw[HQ.out];rfl,HB.out.below⟩
 ·have HQ:=HI.out (by omega)
  obtain⟨g,o,rfl,hgB,hc⟩:=hri (by omega)
  obtain⟨k,hk⟩:∃k:Nat,x.2=(k:Int):=⟨x.2.toNat,by omega⟩
  rw[hk]at j1 h0 h1 h2 HQ
  have hlt:k<L.length:=by omega
  have k0:=hc k hlt
  rw[show((k:Int)).toNat=k by omega]at HQ
  generalize L.getD k 0=z at *
  have HQ:=aA HQ
  have he:((k:Int)==(L.length:Int))=false:=by rw[beq_eq_false_iff_ne];exact h1
  clear HO HI hc hk h0 h1 h2
  have hltI:(k:Int)<(L.length:Int):=by omega
  go_wp2
  go_ret2
  exact⟨by rw[HQ.out];rfl,HB.out.below⟩
theorem zf0 (x y:Au.It) (w:World) :
  Calls Tryz.prog 89 #[itV x,itV y] w fun e w'=>e=.returned (.bool (Au.lt x y))∧Below w.heap.size w w':=by
 have HS0:=aA (bH.start 33 33 w #[.int .i64 x.1,.int .i64 x.2] #[.int .i64 y.1,.int .i64 y.2])
 have g0:=HS0.out.c1 0 _ rfl
 have g1:=HS0.out.c1 1 _ rfl
 have i0:=HS0.out.c2 0 _ rfl
 have i1:=HS0.out.c2 1 _ rfl
 obtain⟨b,hb⟩:∃b,b=Au.lt x y:=⟨_,rfl⟩
 rw[←hb]
 unfold Au.lt at hb
 by_cases h1:x.1<y.1
 ·rw[decide_eq_true h1,Bool.true_or]at hb
  subst hb
  go_enter Tryz.func89,Tryz.ntmps89
  go_wp2
  go_ret
  exact⟨rfl,HS0.out.below⟩
 ·rw[decide_eq_false h1,Bool.false_or]at hb
  by_cases h2:x.1=y.1
  ·rw[decide_eq_true h2,Bool.true_and]at hb
   have he:(x.1==y.1)=true:=by rw[beq_iff_eq];exact h2
   by_cases h3:x.2<y.2
   ·rw[decide_eq_true h3]at hb
    subst hb
    clear h2
    go_enter Tryz.func89,Tryz.ntmps89
    go_wp2
    go_ret
    exact⟨rfl,HS0.out.below⟩
   ·rw[decide_eq_false h3]at hb
    subst hb
    clear h2
    have HF:=aA (decide_eq_false h3)
    go_enter Tryz.func89,Tryz.ntmps89
    go_wp2
    go_ret
    exact⟨aC (by first|rfl|exact HF.out),HS0.out.below⟩
  ·rw[decide_eq_false h2,Bool.false_and]at hb
   have he:(x.1==y.1)=false:=by rw[beq_eq_false_iff_ne];exact h2
   subst hb
   clear h2
   go_enter Tryz.func89,Tryz.ntmps89
   go_wp2
   go_ret
   exact⟨rfl,HS0.out.below⟩
theorem zf6 {a b c:World} {row row2:Option Nat} (h:a.grownBy b row) (k:b.grownBy c row2) (hr:∀j,row2=some j→row=some j∨a.heap.size≤j):a.grownBy c row :=
 ⟨k.os.trans h.os,k.tape.trans h.tape,k.output.trans h.output,Nat.le_trans h.size k.size,fun i hi hne=>(k.block i (Nat.lt_of_lt_of_le hi h.size) (fun e=>by
  rcases hr i e.symm with q|q
  ·exact hne q.symm
  ·omega)).trans (h.block i hi hne)⟩
theorem zby (w:World):(sizeOf (Tryz.prog.elem 27)).run Tryz.prog w=.ok 2 w:=by kernel_rfl
theorem za9:Tryz.prog.underlying 27=some (.slice (Tryz.prog.elem 27)):=by kernel_rfl
theorem zc0 (w:World) (base:Nat) (v:Value) (xs:List Au.It) (x:Au.It) (ho:aI 33 2 prF w base v xs) (hB:base≤w.heap.size) (hlen:xs.length≤100000) :
  Calls Tryz.prog 58 #[v,itV x] w fun e w'=>∃v',e=.returned v'∧aI 33 2 prF w' base v' (Au.put xs x)∧w.grownBy w' v.ownBlock:=by
 obtain⟨A,c,rfl,hlc,hmc,hrd⟩:=aI.form ho aG
 have HO:=aA ho
 have HRD:=aA hrd
 have HB:=aA hB
 have HLC:=aA hlc
 have HLT:=aA (fun k (e:(Value.slice A xs.length c).ownBlock=some k)=>(World.ownsRow.lt ho k e).2)
 obtain⟨wb,hwb⟩:∃z,z=w.alloc (.cells #[.int .i64 x.1,.int .i64 x.2] 33):=⟨_,rfl⟩
 have HT:Hid (aZ 33 w #[.int .i64 x.1,.int .i64 x.2] wb):=aA (by rw[hwb];exact aZ.start _ _ _)
 have hlI:(xs.length:Int)≤100000:=by omega
 have HLE:=aA (fun(a:Au.It) (y:World)=>zf0 a x y)
 clear ho hrd hB
 go_enter Tryz.func58,Tryz.ntmps58
 go_upto_region 1 with fail
 rw[←hwb]
 clear hwb
 go_wp2
 go_loopw [5] (fun vi wr=>∃k:Nat,k≤xs.length∧vi=.int .i64 k∧Hid (∀j (_:j<k) (h:j<xs.length),Au.lt xs[j] x=true)∧Hid (aZ 33 w #[.int .i64 x.1,.int .i64 x.2] wr)) (fun vi _=>xs.length-(intOf vi).toNat)
 case atStart=>exact⟨0,Nat.zero_le _,rfl,aA (fun j h=>absurd h (Nat.not_lt_zero _)),HT⟩
 case round =>
  obtain⟨k,hk,rfl,HK,HW⟩:=hrel
  have i0:∀z:Calm.On wr.heap.size wr,z.1.cell? ⟨w.heap.size,0,none⟩=some (.int .i64 x.1):=fun z=>(HW.out.on z.2).c 0 _ rfl
  have i1:∀z:Calm.On wr.heap.size wr,z.1.cell? ⟨w.heap.size,1,none⟩=some (.int .i64 x.2):=fun z=>(HW.out.on z.2).c 1 _ rfl
  have HS0:Hid (∃z:Calm.On wr.heap.size wr,wr.drew=z.1):=aA ⟨⟨wr.drew,aB (Below.refl _ _) 1⟩,rfl⟩
  by_cases hlt:k<xs.length
  ·obtain⟨g,o,rfl,hgB,hc⟩:=HRD.out (by omega)
   have hltI:(k:Int)<(xs.length:Int):=by omega
   have kk0:∀y:World,Below w.heap.size w y→y.cell? ⟨g,o+k*2,none⟩=some (.int .i64 (xs[k]).1):=fun y h=>(h.cell (p:=⟨g,o+k*2,none⟩) hgB).trans (hc k hlt 0 _ rfl)
   have kk1:∀y:World,Below w.heap.size w y→y.cell? ⟨g,o+k*2+1,none⟩=some (.int .i64 (xs[k]).2):=fun y h=>(h.cell (p:=⟨g,o+k*2+1,none⟩) hgB).trans (hc k hlt 1 _ rfl)
   have k0:∀z:Calm.On wr.heap.size wr,z.1.cell? ⟨g,o+k*2,none⟩=some (.int .i64 (xs[k]).1):=fun z=>kk0 z.1 (HW.out.on z.2).below
   have k1:∀z:Calm.On wr.heap.size wr,z.1.cell? ⟨g,o+k*2+1,none⟩=some (.int .i64 (xs[k]).2):=fun z=>kk1 z.1 (HW.out.on z.2).below
   have KK0:=aA kk0
   have KK1:=aA kk1
   have HNX:Hid (Au.lt xs[k] x=true→∀j (_:j<k+1) (h:j<xs.length),Au.lt xs[j] x=true):=aA (fun h1 j hj h=>by
    rcases Nat.lt_or_ge j k with h3|h3
    ·exact HK.out j h3 h
    ·obtain rfl:j=k:=by omega
     exact h1)
   have HTH:Hid (xs[k]=x→Au.put xs x=xs):=aA (fun e=>Au.put_there hlt HK.out e)
   have HHR:Hid (Au.lt xs[k] x=false→xs[k]≠x→Au.put xs x=xs.take k++[x]++xs.drop k):=aA (fun e1 e2=>Au.put_here hk HK.out (fun _=>⟨e1,e2⟩))
   clear hc kk0 kk1
   generalize xs[k]=y at *
   go_wp2_with fail
   refine CalmN.region_tree (fun x=>∃z:Calm.On wr.heap.size wr,x=z.1) (.one [0,1,2,3,4,5,6,7,8,9] 10 (.fin [11])) (by kernel_rfl) (by kernel_rfl) (fun _ _ d _ _ h=>by cases d <;> exact h) HS0.out ?_
   simp only[CalmN.wpT,CalmN.wpSt,CalmN.pickOps,List.getElem?_toArray,List.getElem?_cons_zero,List.getElem?_cons_succ]
   repeat (go_big_quiet_step (fail))
   refine wpQuiet_nil ?_
   intro KK hKK
   rw[if_pos (by rfl)]
   go_wp2_with fail
   refine(HLE.out y _).mono ?_;rintro _ w2 ⟨rfl,hb2⟩
   have hb2:Below wr.heap.size wr w2:=(aB (Below.refl _ wr) 1).trans hb2
   have HS2:Hid (∃z:Calm.On wr.heap.size wr,w2=z.1):=aA ⟨⟨w2,hb2⟩,rfl⟩
   have HW2:=aA (HW.out.on hb2)
   clear hb2 i0 i1 k0 k1
   cases hl:Au.lt y x
   ·have HL:=aA hl
    clear hl
    go_wp2_with fail
    refine hKK _ _ HS2.out _ (fun _ h=>h) HS2.out ?_
    clear hKK
    repeat (go_big_quiet_step (fail))
    refine wpQuiet_nil ?_
    clear HS0 HS2
    have i0:∀z:Calm.On w2.heap.size w2,z.1.cell? ⟨w.heap.size,0,none⟩=some (.int .i64 x.1):=fun z=>(HW2.out.on z.2).c 0 _ rfl
    have i1:∀z:Calm.On w2.heap.size w2,z.1.cell? ⟨w.heap.size,1,none⟩=some (.int .i64 x.2):=fun z=>(HW2.out.on z.2).c 1 _ rfl
    have k0:∀z:Calm.On w2.heap.size w2,z.1.cell? ⟨g,o+k*2,none⟩=some (.int .i64 y.1):=fun z=>KK0.out z.1 (HW2.out.on z.2).below
    have k1:∀z:Calm.On w2.heap.size w2,z.1.cell? ⟨g,o+k*2+1,none⟩=some (.int .i64 y.2):=fun z=>KK1.out z.1 (HW2.out.on z.2).below
    have HS2:Hid (∃z:Calm.On w2.heap.size w2,w2.drew=z.1):=aA ⟨⟨w2.drew,aB (Below.refl _ _) 1⟩,rfl⟩
    by_cases he:y=x
    ·subst he
     have HPT:=aA (HTH.out rfl)
     have hq1:(y.1==y.1)=true:=by simp
     have hq2:(y.2==y.2)=true:=by simp
     clear HHR HNX HTH
     go_wp2_with fail
     refine CalmN.region_tree (fun x=>∃z:Calm.On w2.heap.size w2,x=z.1) (.fin [0,1,2,3,4,5,6,7,8,9,10,11]) (by kernel_rfl) (by kernel_rfl) (fun _ _ d _ _ h=>by cases d <;> exact h) HS2.out ?_
     simp only[CalmN.wpT,CalmN.pickOps,List.getElem?_toArray,List.getElem?_cons_zero,List.getElem?_cons_succ]
     repeat (go_big_quiet_step (fail))
     refine wpQuiet_nil ?_
     have HO2:=aA ((HO.out.below HW2.out.below (Nat.le_refl _)).drewN 1)
     have HG2:Hid (w.grownBy w2.drew (Value.slice (some ⟨g,o,none⟩) xs.length c).ownBlock):=aA (zbv (aL HW2.out.below _) 1)
     clear i0 i1 k0 k1
     go_wp2
     go_ret
     exact⟨_,rfl,by rw[HPT.out];exact HO2.out,HG2.out⟩
    ·have HPT:=aA (HHR.out HL.out he)
     have hqs:(∃b,((y.1==x.1)=false∧(y.2==x.2)=b))∨((y.1==x.1)=true∧(y.2==x.2)=false):=by
      by_cases e1:y.1=x.1
      ·refine .inr ⟨by rw[beq_iff_eq];exact e1,?_⟩
       rw[beq_eq_false_iff_ne]
       exact fun e2=>he (Prod.ext e1 e2)
      ·exact .inl ⟨_,by rw[beq_eq_false_iff_ne];exact e1,rfl⟩
     clear HHR HNX HTH he
     rcases hqs with⟨b,hq1,hq2⟩|⟨hq1,hq2⟩
     all_goals
      go_wp2_with fail
      refine CalmN.region_tree (fun x=>∃z:Calm.On w2.heap.size w2,x=z.1) (.fin [0,1,2,3,4,5,6,7,8,9,10,11]) (by kernel_rfl) (by kernel_rfl) (fun _ _ d _ _ h=>by cases d <;> exact h) HS2.out ?_
      simp only[CalmN.wpT,CalmN.pickOps,List.getElem?_toArray,List.getElem?_cons_zero,List.getElem?_cons_succ]
      repeat (go_big_quiet_step (fail))
      refine wpQuiet_nil ?_
      have HW3:Hid (aZ 33 w #[.int .i64 x.1,.int .i64 x.2] w2.drew):=aA (HW2.out.drewN 1)
      clear i0 i1 k0 k1 HS2 HW2 hq1 hq2 KK0 KK1
      generalize w2.drew=w3 at *
      generalize hAA:(some (⟨g,o,none⟩:Addr))=AA at *
      have HAA:=aA hAA
      clear hAA
      have HPK:Hid (k≤xs.length):=aA hk
      have HD3:=aA ((HRD.out.dropQ HLC.out k).below HW3.out.below (Nat.le_refl _))
      have HS6:=zaS w3 27 za9 zby AA c xs.length k hk
      have HWA:=aA (HW3.out.alloc (.cells #[] 33))
      have HS6:=zaS (w3.alloc (.cells #[] 33)) 27 za9 zby AA c xs.length k hk
      have HOE:=aA (zbu (m:=2) (f:=prF) (T:=33) w3)
      have HZ3:Hid (w.heap.size+1≤w3.heap.size):=aA HW3.out.size
      have HDA:=aA (HD3.out.alloc (by have:=HZ3.out;omega) (.cells #[] 33))
      have HDL:Hid ((xs.drop k).length=xs.length-k):=aA List.length_drop
      have HLX:Hid (xs.length≤100000):=aA hlen
      go_wp2_with (at_builtin;refine zdf (f:=prF) rfl (.tmp 34) (.tmp 37) _ rfl Tryz.underlying27 _ 16 zbd (by decide) (by decide) (by decide) aG zaI w3.heap.size _ [] rfl HOE.out w.heap.size (xs.length-k) (c-k) _ (xs.drop k) rfl HDL.out.symm HDA.out (by have:=HLX.out;rw[HDL.out];simp;omega) (by simp) ?_;intro v6 w6 ho6 hg6)
      rw[List.nil_append]at ho6
      obtain⟨A6,c6,rfl,_,_,hrd6⟩:=aI.form ho6 aG
      have HB6:Hid (Below w3.heap.size w3 w6):=aA (((Below.refl w3.heap.size w3).alloc (Nat.le_refl _) _).grown hg6 (by simp) (fun k e=>(World.ownsRow.lt HOE.out k e).1))
      have HW6:=aA (HW3.out.on HB6.out)
      have HO6:=aA ho6
      have HRP:=aA ((aI.rowP ho6))
      have x0:w6.drew.cell? ⟨w.heap.size,0,none⟩=some (.int .i64 x.1):=HW6.out.c 0 _ rfl
      have x1:w6.drew.cell? ⟨w.heap.size,1,none⟩=some (.int .i64 x.2):=HW6.out.c 1 _ rfl
      have HOT:=aA (aI.take (HO.out.below HW6.out.below (Nat.le_refl _)) aG k hk)
      have HS7:=fun w=>zdq w 27 za9 zby AA c xs.length k (Nat.le_trans hk HLC.out)
      have HTL:Hid ((xs.take k).length=k):=aA (by rw[List.length_take];omega)
      clear ho6 hg6 hrd6 HS6
      go_upto_region 7 with fail
      refine CalmN.region_tree (fun x=>∃z:OnP [] w6,x=z.1) (.one [0,1,2,6] 3 (.one [] 4 (.one [] 5 (.one [] 7 (.fin [8]))))) (by kernel_rfl) (by kernel_rfl) (fun _ _ d _ _ h=>by cases d <;> exact h) ⟨⟨w6.drew,fun _ h=>by cases h⟩,rfl⟩ ?_
      simp only[CalmN.wpT,CalmN.wpSt,CalmN.pickOps,List.getElem?_toArray,List.getElem?_cons_zero,List.getElem?_cons_succ]
      repeat (go_big_quiet_step (fail))
      refine wpQuiet_nil ?_
      have HSA:Hid (∀y:World,∃z:OnP [] w6,y=z.1):=aA (fun y=>⟨⟨y,fun _ h=>by cases h⟩,rfl⟩)
      have HW7:=aA (HW6.out.drewN 1)
      have HOT:Hid (aI 33 2 prF w6.drew base (.slice AA k c) (xs.take k)):=HOT
      have HRP:Hid (bF 33 w6.drew w3.heap.size w6.drew.heap.size A6 (xs.drop k)):=HRP
      have HG7:Hid (w.grownBy w6.drew (Value.slice AA xs.length c).ownBlock):=aA (zbv (aL HW6.out.below _) 1)
      have HZ7:Hid (w3.heap.size≤w6.drew.heap.size):=aA HB6.out.size
      generalize w6.drew=w7 at *
      have HWB:Hid (Below w7.heap.size w7 (w7.alloc (.cells #[.int .i64 x.1,.int .i64 x.2] 33))):=aA ((Below.refl _ _).alloc (Nat.le_refl _) _)
      intro KK hKK
      rw[if_pos (by rfl)]
      go_wp2_with fail
      refine hKK _ _ (HSA.out _) _ (fun _ h=>h) (HSA.out _) ?_
      clear hKK
      refine wpQuiet_nil ?_
      intro KK hKK
      rw[if_pos (by rfl)]
      go_wp2_with fail
      refine hKK _ _ (HSA.out _) _ (fun _ h=>h) (HSA.out _) ?_
      clear hKK
      refine wpQuiet_nil ?_
      intro KK hKK
      rw[if_pos (by rfl)]
      have hnew:=heap_alloc_new w7 (.cells #[.int .i64 x.1,.int .i64 x.2] 33)
      have hob:(Value.slice AA k c).ownBlock=(Value.slice AA xs.length c).ownBlock:=by cases AA <;> rfl
      refine zeH (f:=prF) (.tmp 41) (.tmp 43) _ rfl Tryz.underlying27 _ 16 zbd (by decide) (by decide) (by decide) aG zaI base (.slice AA k c) (xs.take k) rfl (HOT.out.alloc _) _ _ x rfl (zbk x _ _ hnew) (by have:=HLX.out;rw[HTL.out];omega) (Nat.le_trans HB.out (Nat.le_trans HG7.out.size HWB.out.size)) ?_
      intro v8 w8 ho8 hg8 hat8
      rw[hob]at hg8 hat8
      have hz8:=HWB.out.size
      have HG8:Hid (w.grownBy w8 (Value.slice AA xs.length c).ownBlock):=aA (zam (zam HG7.out (aL HWB.out _)) hg8)
      have HO8:=aA ho8
      have HRP8:Hid (RdQ 2 prF w8 w8.heap.size A6 (xs.drop k)):=aA (((HRP.out.keepLo fun g cur hlo hgN hc=>by
       refine(hg8.block g (Nat.lt_of_lt_of_le hgN hz8) (fun e=>?_)).trans ((HWB.out.block g hgN).trans hc)
       have:=HLT.out g e.symm
       have:=HZ3.out
       omega).rd).more (Nat.le_trans hz8 hg8.size))
      have HAT8:Hid (∀j,v8.ownBlock=some j→(Value.slice AA xs.length c).ownBlock=some j∨w.heap.size≤j):=aA (fun j e=>by
       rcases hat8 with q|q
       ·exact .inl (q.symm.trans e)
       ·rw[q]at e
        injection e with e
        exact .inr (by have:=HZ7.out;have:=HZ3.out;omega))
      have HL8:Hid ((xs.take k++[x]).length+(xs.drop k).length≤1000000):=aA (by have:=HLX.out;rw[List.length_append,HTL.out,HDL.out,List.length_singleton];omega)
      have HB8:Hid (base≤w8.heap.size):=aA (Nat.le_trans HB.out HG8.out.size)
      clear ho8 hg8 hat8 hob hz8 hnew x0 x1
      refine hKK _ _ (HSA.out _) _ (fun _ h=>h) (HSA.out _) ?_
      clear hKK
      go_frame
      repeat (go_big_quiet_step (fail))
      refine wpQuiet_nil ?_
      intro KK hKK
      rw[if_pos (by rfl)]
      refine zgC (f:=prF) (.tmp 44) (.tmp 45) _ rfl Tryz.underlying27 _ 16 zbd (by decide) (by decide) (by decide) aG zaI base v8 (xs.take k++[x]) rfl HO8.out w8.heap.size (xs.drop k).length c6 A6 (xs.drop k) rfl rfl HRP8.out HL8.out HB8.out ?_
      intro v9 w9 ho9 hg9
      have HO9:=aA ho9
      have HG9:=aA (zf6 HG8.out hg9 HAT8.out)
      clear ho9 hg9
      refine hKK _ _ (HSA.out _) _ (fun _ h=>h) (HSA.out _) ?_
      clear hKK
      go_frame
      repeat (go_big_quiet_step (fail))
      refine wpQuiet_nil ?_
      go_wp2
      go_ret
      exact⟨_,rfl,by rw[HPT.out];exact HO9.out,by rw[HAA.out];exact HG9.out⟩
   ·have HN:=aA (HNX.out hl)
    go_wp2_with fail
    refine hKK _ _ HS2.out _ (fun _ h=>h) HS2.out ?_
    clear hKK
    repeat (go_big_quiet_step (fail))
    refine wpQuiet_nil ?_
    go_wp2
    go_roundw
    case rel=>exact⟨k+1,hlt,by go_num,HN,HW2⟩
    case measure=>simp[intOf];omega
  ·have HPT:Hid (Au.put xs x=xs.take k++[x]++xs.drop k):=aA (Au.put_here hk HK.out (fun h=>absurd h hlt))
   have hkI:¬((k:Int)<(xs.length:Int)):=by omega
   have hkD:decide (k<xs.length)=false:=decide_eq_false hlt
   go_wp2_with fail
   refine CalmN.region_tree (fun x=>∃z:Calm.On wr.heap.size wr,x=z.1) (.one [0,1,2,3,4,5,6,7,8,9] 10 (.fin [11])) (by kernel_rfl) (by kernel_rfl) (fun _ _ d _ _ h=>by cases d <;> exact h) HS0.out ?_
   simp only[CalmN.wpT,CalmN.wpSt,CalmN.pickOps,List.getElem?_toArray,List.getElem?_cons_zero,List.getElem?_cons_succ]
   repeat (go_big_quiet_step (fail))
   refine wpQuiet_nil ?_
   intro KK hKK
   rw[if_neg (by exact(fun h=>absurd (show false=true from h) (by decide)))]
   refine hKK _ _ HS0.out _ (fun _ h=>h) HS0.out ?_
   clear hKK
   simp only[Act.put,List.setIfInBounds_toArray,List.set_cons_succ,List.set_cons_zero]
   repeat (go_big_quiet_step (fail))
   refine wpQuiet_nil ?_
   have HW2:Hid (aZ 33 w #[.int .i64 x.1,.int .i64 x.2] wr.drew):=aA (HW.out.drewN 1)
   clear i0 i1 HS0
   generalize wr.drew=w2 at *
   have i0:∀z:Calm.On w2.heap.size w2,z.1.cell? ⟨w.heap.size,0,none⟩=some (.int .i64 x.1):=fun z=>(HW2.out.on z.2).c 0 _ rfl
   have i1:∀z:Calm.On w2.heap.size w2,z.1.cell? ⟨w.heap.size,1,none⟩=some (.int .i64 x.2):=fun z=>(HW2.out.on z.2).c 1 _ rfl
   have HS2:Hid (∃z:Calm.On w2.heap.size w2,w2.drew=z.1):=aA ⟨⟨w2.drew,aB (Below.refl _ _) 1⟩,rfl⟩
   go_wp2_with fail
   refine CalmN.region_tree (fun x=>∃z:Calm.On w2.heap.size w2,x=z.1) (.fin [0,1,2,3,4,5,6,7,8,9,10,11]) (by kernel_rfl) (by kernel_rfl) (fun _ _ d _ _ h=>by cases d <;> exact h) HS2.out ?_
   simp only[CalmN.wpT,CalmN.pickOps,List.getElem?_toArray,List.getElem?_cons_zero,List.getElem?_cons_succ]
   repeat (go_big_quiet_step (fail))
   refine wpQuiet_nil ?_
   have HW3:Hid (aZ 33 w #[.int .i64 x.1,.int .i64 x.2] w2.drew):=aA (HW2.out.drewN 1)
   clear i0 i1 HS2 HW2 hkI hkD hlt
   generalize w2.drew=w3 at *
   generalize hAA:A=AA at *
   have HAA:=aA hAA
   clear hAA
   have HPK:Hid (k≤xs.length):=aA hk
   have HD3:=aA ((HRD.out.dropQ HLC.out k).below HW3.out.below (Nat.le_refl _))
   have HS6:=zaS w3 27 za9 zby AA c xs.length k hk
   have HWA:=aA (HW3.out.alloc (.cells #[] 33))
   have HS6:=zaS (w3.alloc (.cells #[] 33)) 27 za9 zby AA c xs.length k hk
   have HOE:=aA (zbu (m:=2) (f:=prF) (T:=33) w3)
   have HZ3:Hid (w.heap.size+1≤w3.heap.size):=aA HW3.out.size
   have HDA:=aA (HD3.out.alloc (by have:=HZ3.out;omega) (.cells #[] 33))
   have HDL:Hid ((xs.drop k).length=xs.length-k):=aA List.length_drop
   have HLX:Hid (xs.length≤100000):=aA hlen
   go_wp2_with (at_builtin;refine zdf (f:=prF) rfl (.tmp 34) (.tmp 37) _ rfl Tryz.underlying27 _ 16 zbd (by decide) (by decide) (by decide) aG zaI w3.heap.size _ [] rfl HOE.out w.heap.size (xs.length-k) (c-k) _ (xs.drop k) rfl HDL.out.symm HDA.out (by have:=HLX.out;rw[HDL.out];simp;omega) (by simp) ?_;intro v6 w6 ho6 hg6)
   rw[List.nil_append]at ho6
   obtain⟨A6,c6,rfl,_,_,hrd6⟩:=aI.form ho6 aG
   have HB6:Hid (Below w3.heap.size w3 w6):=aA (((Below.refl w3.heap.size w3).alloc (Nat.le_refl _) _).grown hg6 (by simp) (fun k e=>(World.ownsRow.lt HOE.out k e).1))
   have HW6:=aA (HW3.out.on HB6.out)
   have HO6:=aA ho6
   have HRP:=aA ((aI.rowP ho6))
   have x0:w6.drew.cell? ⟨w.heap.size,0,none⟩=some (.int .i64 x.1):=HW6.out.c 0 _ rfl
   have x1:w6.drew.cell? ⟨w.heap.size,1,none⟩=some (.int .i64 x.2):=HW6.out.c 1 _ rfl
   have HOT:=aA (aI.take (HO.out.below HW6.out.below (Nat.le_refl _)) aG k hk)
   have HS7:=fun w=>zdq w 27 za9 zby AA c xs.length k (Nat.le_trans hk HLC.out)
   have HTL:Hid ((xs.take k).length=k):=aA (by rw[List.length_take];omega)
   clear ho6 hg6 hrd6 HS6
   go_upto_region 7 with fail
   refine CalmN.region_tree (fun x=>∃z:OnP [] w6,x=z.1) (.one [0,1,2,6] 3 (.one [] 4 (.one [] 5 (.one [] 7 (.fin [8]))))) (by kernel_rfl) (by kernel_rfl) (fun _ _ d _ _ h=>by cases d <;> exact h) ⟨⟨w6.drew,fun _ h=>by cases h⟩,rfl⟩ ?_
   simp only[CalmN.wpT,CalmN.wpSt,CalmN.pickOps,List.getElem?_toArray,List.getElem?_cons_zero,List.getElem?_cons_succ]
   repeat (go_big_quiet_step (fail))
   refine wpQuiet_nil ?_
   have HSA:Hid (∀y:World,∃z:OnP [] w6,y=z.1):=aA (fun y=>⟨⟨y,fun _ h=>by cases h⟩,rfl⟩)
   have HW7:=aA (HW6.out.drewN 1)
   have HOT:Hid (aI 33 2 prF w6.drew base (.slice AA k c) (xs.take k)):=HOT
   have HRP:Hid (bF 33 w6.drew w3.heap.size w6.drew.heap.size A6 (xs.drop k)):=HRP
   have HG7:Hid (w.grownBy w6.drew (Value.slice AA xs.length c).ownBlock):=aA (zbv (aL HW6.out.below _) 1)
   have HZ7:Hid (w3.heap.size≤w6.drew.heap.size):=aA HB6.out.size
   generalize w6.drew=w7 at *
   have HWB:Hid (Below w7.heap.size w7 (w7.alloc (.cells #[.int .i64 x.1,.int .i64 x.2] 33))):=aA ((Below.refl _ _).alloc (Nat.le_refl _) _)
   intro KK hKK
   rw[if_pos (by rfl)]
   go_wp2_with fail
   refine hKK _ _ (HSA.out _) _ (fun _ h=>h) (HSA.out _) ?_
   clear hKK
   refine wpQuiet_nil ?_
   intro KK hKK
   rw[if_pos (by rfl)]
   go_wp2_with fail
   refine hKK _ _ (HSA.out _) _ (fun _ h=>h) (HSA.out _) ?_
   clear hKK
   refine wpQuiet_nil ?_
   intro KK hKK
   rw[if_pos (by rfl)]
   have hnew:=heap_alloc_new w7 (.cells #[.int .i64 x.1,.int .i64 x.2] 33)
   have hob:(Value.slice AA k c).ownBlock=(Value.slice AA xs.length c).ownBlock:=by cases AA <;> rfl
   refine zeH (f:=prF) (.tmp 41) (.tmp 43) _ rfl Tryz.underlying27 _ 16 zbd (by decide) (by decide) (by decide) aG zaI base (.slice AA k c) (xs.take k) rfl (HOT.out.alloc _) _ _ x rfl (zbk x _ _ hnew) (by have:=HLX.out;rw[HTL.out];omega) (Nat.le_trans HB.out (Nat.le_trans HG7.out.size HWB.out.size)) ?_
   intro v8 w8 ho8 hg8 hat8
   rw[hob]at hg8 hat8
   have hz8:=HWB.out.size
   have HG8:Hid (w.grownBy w8 (Value.slice AA xs.length c).ownBlock):=aA (zam (zam HG7.out (aL HWB.out _)) hg8)
   have HO8:=aA ho8
   have HRP8:Hid (RdQ 2 prF w8 w8.heap.size A6 (xs.drop k)):=aA (((HRP.out.keepLo fun g cur hlo hgN hc=>by
    refine(hg8.block g (Nat.lt_of_lt_of_le hgN hz8) (fun e=>?_)).trans ((HWB.out.block g hgN).trans hc)
    have:=HLT.out g e.symm
    have:=HZ3.out
    omega).rd).more (Nat.le_trans hz8 hg8.size))
   have HAT8:Hid (∀j,v8.ownBlock=some j→(Value.slice AA xs.length c).ownBlock=some j∨w.heap.size≤j):=aA (fun j e=>by
    rcases hat8 with q|q
    ·exact .inl (q.symm.trans e)
    ·rw[q]at e
     injection e with e
     exact .inr (by have:=HZ7.out;have:=HZ3.out;omega))
   have HL8:Hid ((xs.take k++[x]).length+(xs.drop k).length≤1000000):=aA (by have:=HLX.out;rw[List.length_append,HTL.out,HDL.out,List.length_singleton];omega)
   have HB8:Hid (base≤w8.heap.size):=aA (Nat.le_trans HB.out HG8.out.size)
   clear ho8 hg8 hat8 hob hz8 hnew x0 x1
   refine hKK _ _ (HSA.out _) _ (fun _ h=>h) (HSA.out _) ?_
   clear hKK
   go_frame
   repeat (go_big_quiet_step (fail))
   refine wpQuiet_nil ?_
   intro KK hKK
   rw[if_pos (by rfl)]
   refine zgC (f:=prF) (.tmp 44) (.tmp 45) _ rfl Tryz.underlying27 _ 16 zbd (by decide) (by decide) (by decide) aG zaI base v8 (xs.take k++[x]) rfl HO8.out w8.heap.size (xs.drop k).length c6 A6 (xs.drop k) rfl rfl HRP8.out HL8.out HB8.out ?_
   intro v9 w9 ho9 hg9
   have HO9:=aA ho9
   have HG9:=aA (zf6 HG8.out hg9 HAT8.out)
   clear ho9 hg9
   refine hKK _ _ (HSA.out _) _ (fun _ h=>h) (HSA.out _) ?_
   clear hKK
   go_frame
   repeat (go_big_quiet_step (fail))
   refine wpQuiet_nil ?_
   go_wp2
   go_ret
   exact⟨_,rfl,by rw[HPT.out];exact HO9.out,by rw[HAA.out];exact HG9.out⟩
namespace Au
theorem zem:∀ {zs out:List It},out.length≤(puts out zs).length
 | [],_=>Nat.le_refl _
 | z::zs,out=>by
  have h:out.length≤(put out z).length:=by
   by_cases hz:z∈out
   ·induction out with
    | nil=>simp
    | cons y l ih =>
     rw[put]
     split
     ·rw[List.length_cons,List.length_cons]
      by_cases hl:z∈l
      ·have:=ih hl;omega
      ·have:=zc2 hl;omega
     ·split <;> simp
   ·have:=zc2 hz;omega
  exact Nat.le_trans h (zem (zs:=zs) (out:=put out z))
theorem puts_same:∀ {zs out:List It},Srt out→(puts out zs).length≤out.length→puts out zs=out∧∀z∈zs,z∈out
 | [],_,_,_=>⟨rfl,fun _ h=>by cases h⟩
 | z::zs,out,hs,h=>by
  have e:puts out (z::zs)=puts (put out z) zs:=rfl
  rw[e]at h ⊢
  have h1:=zem (zs:=zs) (out:=put out z)
  have hz:z∈out:=zg2 (by omega)
  rw[zhL hs hz]at h ⊢
  obtain⟨h2,h3⟩:=puts_same hs h
  refine⟨h2,fun y hy=>?_⟩
  rcases List.mem_cons.1 hy with rfl|hy
  ·exact hz
  ·exact h3 y hy
theorem CInv.putsE {G:Gm.Gr} {l out:List It} (k:CInv G l out) {x:It} (hx:x∈out):CInv G l (puts out (addE G x)) :=
 ⟨zbM k.s,fun y hy=>zaH.2 (.inl (k.h y hy)),fun y hy=>(zaH.1 hy).elim (k.c y) fun h=>by
  obtain⟨s,hs,h0,j,hj,hl,rfl⟩:=zbb.1 h
  exact .on x (k.c x hx) s hs h0 j hj hl⟩
def ClTo (G:Gm.Gr) (out:List It) (i:Nat):Prop:=∀j (h:j<out.length),j<i→∀z∈addE G out[j],z∈out
theorem ClTo.zero (G:Gm.Gr) (out:List It):ClTo G out 0:=fun _ _ h=>absurd h (Nat.not_lt_zero _)
theorem ClTo.next {G:Gm.Gr} {out:List It} {i:Nat} (h:ClTo G out i) (hi:i<out.length) (hz:∀z∈addE G out[i],z∈out):ClTo G out (i+1):=fun j hj hji z hz'=>by
 rcases Nat.lt_or_ge j i with h1|h1
 ·exact h j hj h1 z hz'
 ·obtain rfl:j=i:=by omega
  exact hz z hz'
theorem CInv.end_ {G:Gm.Gr} {l out:List It} (hl:∀x∈l,isI G x=true) (k:CInv G l out) (h:ClTo G out out.length):out=clo G l :=
 k.done hl fun x hx s hs h0 j hj he=>by
  obtain⟨q,hq,rfl⟩:=List.getElem_of_mem hx
  exact h q hq hq _ (zbb.2 ⟨s,hs,h0,j,hj,he,rfl⟩)
theorem puts_up:∀ {zs out:List It},(puts out zs).length≤out.length+zs.length
 | [],_=>Nat.le_refl _
 | z::zs,out=>by
  have h1:=zi4 out z
  have h2:=puts_up (zs:=zs) (out:=put out z)
  have e:puts out (z::zs)=puts (put out z) zs:=rfl
  rw[e,List.length_cons];omega
end Au
def zcz:Value→Nat
 | .slice _ n _=>n
 | _=>0
theorem zcE (v:Value) (G:Gm.Gr) (B:Nat) (l:List Au.It) (A:Option Addr) (c BL:Nat) (w:World) (hg:aT w B v G) (hf:Gm.Fit G) (hok:Gm.Ok G) (hB:B≤w.heap.size) (hl:RdQ 2 prF w BL A l) (hBL:BL≤w.heap.size) (hi:∀x∈l,Au.isI G x=true) (hlen:l.length≤1000) :
  Calls Tryz.prog 32 #[v,.slice A l.length c] w fun e w'=>∃v',e=.returned v'∧aI 33 2 prF w' w.heap.size v' (Au.clo G l)∧Below w.heap.size w w':=by
 have HG:=aA hg
 have HF:=aA hf
 have HOK:=aA hok
 have HBW:=aA hB
 have HL:=aA hl
 have HBL:=aA hBL
 have HII:=aA hi
 obtain⟨AT,cT,AN,cN,AR,cR,rfl,_,_,⟨hlR,hmR⟩,_,_,hR⟩:=hg
 have HR:=aA hR
 have HS0:=aA (aZ.start 26 w #[.slice AT G.ts.length cT,.slice AN G.ns.length cN,.slice AR G.rs.length cR,.int .i64 G.st])
 have hlI:(l.length:Int)≤1000:=by omega
 have hrI:(G.rs.length:Int)≤40:=by have:=hok.r40;omega
 clear hf hok hB hl hBL hi hR
 go_enter Tryz.func32,Tryz.ntmps32
 go_wp2
 go_loopw [5,6] (fun vo vi wr=>∃i:Nat,i≤l.length∧vi=.int .i64 i∧Hid (aI 33 2 prF wr (w.heap.size+1) vo (Au.puts [] (l.take i)))∧Hid (aZ 26 w #[.slice AT G.ts.length cT,.slice AN G.ns.length cN,.slice AR G.rs.length cR,.int .i64 G.st] wr)) (fun _ vi _=>l.length-(intOf vi).toNat)
 case atStart=>exact⟨0,Nat.zero_le _,rfl,aA (aI.nil _ _),HS0⟩
 case round =>
  obtain⟨i,hi,rfl,HO,HW⟩:=hrel
  obtain⟨Ao,co,rfl,_,_,_⟩:=aI.form HO.out aG
  by_cases hlt:i<l.length
  ·obtain⟨g,o,rfl,hgB,hc⟩:=HL.out (by omega)
   have hgw:g<w.heap.size:=Nat.lt_of_lt_of_le hgB HBL.out
   have k0:wr.cell? ⟨g,o+i*2,none⟩=some (.int .i64 (l[i]).1):=(HW.out.below.cell (p:=⟨g,o+i*2,none⟩) hgw).trans (hc i hlt 0 _ rfl)
   have k1:wr.cell? ⟨g,o+i*2+1,none⟩=some (.int .i64 (l[i]).2):=(HW.out.below.cell (p:=⟨g,o+i*2+1,none⟩) hgw).trans (hc i hlt 1 _ rfl)
   have HTK:Hid (Au.puts [] (l.take (i+1))=Au.put (Au.puts [] (l.take i)) l[i]):=aA (by rw[List.take_succ_eq_append_getElem hlt,Au.puts_snoc])
   have HPT:=aA (zc0 wr (w.heap.size+1) _ _ l[i] HO.out HW.out.size (by have:=Au.puts_up (zs:=l.take i) (out:=[]);rw[List.length_take]at this;simp only[List.length_nil]at this;omega))
   have HOL:=aA (fun k e=>(World.ownsRow.lt HO.out k e).1)
   clear hc
   generalize l[i]=x at *
   generalize (Au.puts [] (l.take i)).length=n at *
   go_wp2_with fail
   refine HPT.out.mono ?_;rintro _ w2 ⟨v2,rfl,ho2,hg2⟩
   have HO2:=aA ho2
   have HW2:Hid (aZ 26 w #[.slice AT G.ts.length cT,.slice AN G.ns.length cN,.slice AR G.rs.length cR,.int .i64 G.st] w2):=aA (Below.grown HW.out hg2 HW.out.size (fun k e=>HOL.out k e))
   obtain⟨A2,c2,rfl,_,_,_⟩:=aI.form ho2 aG
   clear ho2 hg2 k0 k1
   go_wp2
   go_roundw
   case rel=>exact⟨i+1,hlt,by go_num,aA (by rw[HTK.out];exact HO2.out),HW2⟩
   case measure=>simp[intOf];omega
  ·obtain rfl:i=l.length:=by omega
   generalize (Au.puts [] (l.take l.length)).length=n0 at *
   rw[List.take_length]at HO
   have HC:=aA (Au.CInv.start (G:=G) l)
   generalize Au.puts [] l=out0 at *
   obtain⟨wo,hwo⟩:∃wo:World,wo=wr:=⟨_,rfl⟩
   subst hwo
   go_wp2
   go_loopw [5,7] (fun vo vi wr=>∃(i:Nat) (out:List Au.It),i≤out.length∧vi=.int .i64 i∧zcz vo=out.length∧Hid (Au.CInv G l out)∧Hid (Au.ClTo G out i)∧Hid (aI 33 2 prF wr (w.heap.size+1) vo out)∧Hid (aZ 26 w #[.slice AT G.ts.length cT,.slice AN G.ns.length cN,.slice AR G.rs.length cR,.int .i64 G.st] wr)) (fun vo vi _=>(288-zcz vo)*400+(399-(intOf vi).toNat))
   case atStart =>
    obtain⟨A3,c3,e,_⟩:=aI.form HO.out aG
    exact⟨0,out0,Nat.zero_le _,rfl,by rw[e];rfl,HC,aA (Au.ClTo.zero _ _),HO,HW⟩
   case round =>
    obtain⟨i,out,hi,rfl,hsn,HC,HCT,HO,HW⟩:=hrel
    have hle:out.length≤287:=Nat.le_trans (HC.out.le HII.out) (Au.allI_le HOK.out HOK.out.r40)
    obtain⟨Ao,co,rfl,_,_,_⟩:=aI.form HO.out aG
    have hleI:(out.length:Int)≤287:=by omega
    clear hsn
    by_cases hlt:i<out.length
    ·obtain⟨g,c1,he,hlc,hmc,_⟩:=aI.addr HO.out (by omega)
     injection he with he1 he2 he3
     subst he1
     clear he2 he3
     have k0:wr.cell? ⟨g,i*2,none⟩=some (.int .i64 (out[i]).1):=aI.cellAt HO.out aG i 0 hlt _ rfl
     have k1:wr.cell? ⟨g,i*2+1,none⟩=some (.int .i64 (out[i]).2):=aI.cellAt HO.out aG i 1 hlt _ rfl
     have hgl:=aI.lt HO.out
     have hltI:(i:Int)<(out.length:Int):=by omega
     have HIX:Hid (Au.isI G out[i]=true):=aA (HC.out.is HII.out _ (List.getElem_mem hlt))
     have HMM:Hid (out[i]∈out):=aA (List.getElem_mem hlt)
     have HNE:=aA (fun(y:World) (h:Below wr.heap.size wr y)=>zbs _ G B out[i] y (HG.out.below (HW.out.below.trans (h.mono (Nat.le_trans (Nat.le_add_right _ 1) HW.out.size))) HBW.out) HF.out (Nat.le_trans HBW.out (Nat.le_trans (Nat.le_trans (Nat.le_add_right _ 1) HW.out.size) h.size)) HIX.out)
     have HCN:=aA (fun(h:∀z∈Au.addE G out[i],z∈out)=>HCT.out.next hlt h)
     have HSB:Hid (∀s,Au.nx G out[i]=some s→-1000≤s∧s≤1000):=aA (fun s hs=>by
      have h1:=Gm.has_iff.1 (Au.syms_mem.1 (Au.nx_in HOK.out HIX.out hs))
      have h2:=(Gm.nons_iff G).1 HOK.out.n
      have h3:=(Gm.terms_iff G.ts).1 HOK.out.t
      omega)
     generalize out[i]=x at *
     go_upto_region 9 with fail
     have z0:∀z:Calm.On wr.heap.size wr,z.1.cell? ⟨w.heap.size,0,none⟩=some (.slice AT G.ts.length cT):=fun z=>(HW.out.on z.2).c 0 _ rfl
     have z1:∀z:Calm.On wr.heap.size wr,z.1.cell? ⟨w.heap.size,1,none⟩=some (.slice AN G.ns.length cN):=fun z=>(HW.out.on z.2).c 1 _ rfl
     have z2:∀z:Calm.On wr.heap.size wr,z.1.cell? ⟨w.heap.size,2,none⟩=some (.slice AR G.rs.length cR):=fun z=>(HW.out.on z.2).c 2 _ rfl
     have z3:∀z:Calm.On wr.heap.size wr,z.1.cell? ⟨w.heap.size,3,none⟩=some (.int .i64 G.st):=fun z=>(HW.out.on z.2).c 3 _ rfl
     have q0:∀z:Calm.On wr.heap.size wr,z.1.cell? ⟨g,i*2,none⟩=some (.int .i64 x.1):=fun z=>(z.2.cell (p:=⟨g,i*2,none⟩) hgl).trans k0
     have q1:∀z:Calm.On wr.heap.size wr,z.1.cell? ⟨g,i*2+1,none⟩=some (.int .i64 x.2):=fun z=>(z.2.cell (p:=⟨g,i*2+1,none⟩) hgl).trans k1
     have HS0:Hid (∃z:Calm.On wr.heap.size wr,wr.drew=z.1):=aA ⟨⟨wr.drew,aB (Below.refl _ _) 1⟩,rfl⟩
     clear k0 k1
     refine CalmN.region_tree (fun x=>∃z:Calm.On wr.heap.size wr,x=z.1) (.one [0,1,2,3,4] 5 (.fin [6,7,8,9,10])) (by kernel_rfl) (by kernel_rfl) (fun _ _ d _ _ h=>by cases d <;> exact h) HS0.out ?_
     simp only[CalmN.wpT,CalmN.wpSt,CalmN.pickOps,List.getElem?_toArray,List.getElem?_cons_zero,List.getElem?_cons_succ]
     repeat (go_big_quiet_step (fail))
     refine wpQuiet_nil ?_
     intro KK hKK
     rw[if_pos (by rfl)]
     go_wp2_with fail
     refine(HNE.out wr.drew (aB (Below.refl _ _) 1)).mono ?_;rintro _ w2 ⟨rfl,hb2⟩
     have hb2:Below wr.heap.size wr w2:=(aB (Below.refl _ wr) 1).trans hb2
     have HS2:Hid (∃z:Calm.On wr.heap.size wr,w2=z.1):=aA ⟨⟨w2,hb2⟩,rfl⟩
     have HW2:=aA (HW.out.on hb2)
     have HO2:=aA (HO.out.below hb2 (Nat.le_refl _))
     clear hb2 z0 z1 z2 z3 q0 q1 hgl HNE HS0
     cases hq:Au.nx G x with
     | none =>
      have hE:=Au.addE_no (G:=G) (x:=x) (fun s hs=>by rw[hq]at hs;cases hs)
      have HCN2:=aA (HCN.out (by rw[hE];intro z hz;cases hz))
      clear hE hq
      go_wp2_with fail
      refine hKK _ _ HS2.out _ (fun _ h=>h) HS2.out ?_
      clear hKK
      repeat (go_big_quiet_step (fail))
      refine wpQuiet_nil ?_
      go_wp2
      go_loopw [5,11] (fun vo vk wy=>vo=.slice (some ⟨g,0,none⟩) out.length co∧vk=.int .i64 0∧wy=w2) (fun _ _ _=>0)
      case atStart=>exact⟨rfl,rfl,by trivial⟩
      case round =>
       obtain⟨rfl,rfl,rfl⟩:=hrel
       go_wp2
       go_roundw
       case rel=>exact⟨i+1,out,hlt,by go_num,rfl,HC,HCN2,HO2,HW2⟩
       case measure=>simp[intOf,zcz];omega
     | some s =>
      have hsb:=HSB.out s hq
      by_cases h0:s<0
      ·have hE:=Au.addE_beg hq h0
       have hw1:IntKind.i64.wrap (-1-s) = -1-s:=IntWalk.i64_in _ (by omega)
       have HCP:=aA (HC.out.putsE HMM.out)
       have HSM:=aA (fun h=>Au.puts_same (zs:=Au.addE G x) HC.out.s h)
       rw[hE]at HCP HSM HCN
       have HST:Hid (Au.puts out (Au.begT G (-1-s) 0)=out):=aA rfl
       have HLB:Hid (∀k,(Au.puts out (Au.begT G (-1-s) k)).length≤287+k):=aA (fun k=>by
        have h1:=Au.puts_up (zs:=Au.begT G (-1-s) k) (out:=out)
        have h2:=Au.begT_len G (-1-s) k
        omega)
       have HHI:=aA hi
       have HHL:=aA hle
       clear hE hq hsb
       go_wp2_with fail
       refine hKK _ _ HS2.out _ (fun _ h=>h) HS2.out ?_
       clear hKK
       repeat (go_big_quiet_step (fail))
       refine wpQuiet_nil ?_
       go_wp2
       go_loopw [5,11] (fun vo vk wy=>∃k:Nat,k≤G.rs.length∧vk=.int .i64 k∧Hid (aI 33 2 prF wy (w.heap.size+1) vo (Au.puts out (Au.begT G (-1-s) k)))∧Hid (aZ 26 w #[.slice AT G.ts.length cT,.slice AN G.ns.length cN,.slice AR G.rs.length cR,.int .i64 G.st] wy)) (fun _ vk _=>G.rs.length-(intOf vk).toNat)
       case atStart=>exact⟨0,Nat.zero_le _,rfl,HO2,HW2⟩
       case round =>
        obtain⟨k,hk,rfl,HOK2,HWK⟩:=hrel
        rename World=>wy
        obtain⟨Ak,ck,rfl,_,_,_⟩:=aI.form HOK2.out aG
        have r2:=HWK.out.c 2 _ rfl
        by_cases hkl:k<G.rs.length
        ·obtain⟨gr,or,rfl,hgB,hc⟩:=HR.out (by omega)
         have k0:=(HWK.out.below.cell (p:=⟨gr,or+k*3,none⟩) (Nat.lt_of_lt_of_le hgB HBW.out)).trans (hc k hkl).1
         have hY:=Au.begT_yes (left:=-1-s) hkl
         have hN:=Au.begT_no (left:=-1-s) hkl
         have hklI:(k:Int)<(G.rs.length:Int):=by omega
         have HPT:=aA (zc0 wy (w.heap.size+1) _ _ ((k:Int),0) HOK2.out HWK.out.size (by have:=HLB.out k;omega))
         have HOL:=aA (fun k e=>(World.ownsRow.lt HOK2.out k e).1)
         clear hc hgB
         generalize (G.rs[k]).l=lf at *
         generalize (Au.puts out (Au.begT G (-1-s) k)).length=nk at *
         by_cases he:lf = -1-s
         ·have HYE:=aA (hY he)
          have hq:(lf == -1-s)=true:=by rw[beq_iff_eq];exact he
          clear hY hN he
          go_wp2_with fail
          refine HPT.out.mono ?_;rintro _ w5 ⟨v5,rfl,ho5,hg5⟩
          have HO5:=aA ho5
          have HW5:=aA (show aZ 26 w _ w5 from Below.grown HWK.out hg5 HWK.out.size (fun k e=>HOL.out k e))
          obtain⟨A5,c5,rfl,_,_,_⟩:=aI.form ho5 aG
          clear ho5 hg5 k0 r2
          go_wp2
          go_roundw
          case rel=>exact⟨k+1,hkl,by go_num,aA (by rw[HYE.out,Au.puts_snoc];exact HO5.out),HW5⟩
          case measure=>simp[intOf];omega
         ·have HNE:=aA (hN he)
          have hq:(lf == -1-s)=false:=by rw[beq_eq_false_iff_ne];exact he
          clear hY hN he HPT
          go_wp2
          go_roundw
          case rel=>exact⟨k+1,hkl,by go_num,aA (by rw[HNE.out];exact HOK2.out),HWK⟩
          case measure=>simp[intOf];omega
        ·obtain rfl:k=G.rs.length:=by omega
         have HLE2:=aA (HCP.out.le HII.out)
         have HLA:=aA (Au.allI_le HOK.out HOK.out.r40)
         generalize hou:Au.puts out (Au.begT G (-1-s) G.rs.length)=out2 at *
         have HOU:=aA hou
         clear hou
         by_cases hgr:out.length<out2.length
         ·have hgI:(out.length:Int)<(out2.length:Int):=by omega
          go_wp2
          go_roundw
          case rel=>exact⟨0,out2,Nat.zero_le _,by go_num,rfl,HCP,aA (Au.ClTo.zero _ _),HOK2,HWK⟩
          case measure=>have h1:=HLE2.out;have h2:=HLA.out;have h3:=HHI.out;simp[intOf,zcz];omega
         ·obtain⟨e1,e2⟩:=HSM.out (by omega)
          have HCN2:=aA (HCN.out e2)
          have hgI:¬((out.length:Int)<(out2.length:Int)):=by omega
          subst e1
          clear hgr e2
          go_wp2
          go_roundw
          case rel=>exact⟨i+1,out2,hlt,by go_num,rfl,HC,HCN2,HOK2,HWK⟩
          case measure=>have h3:=HHI.out;simp[intOf,zcz];omega
      ·have hE:=Au.addE_no (G:=G) (x:=x) (fun s' hs=>by rw[hq]at hs;injection hs with hs;omega)
       have HCN2:=aA (HCN.out (by rw[hE];intro z hz;cases hz))
       clear hE hq hsb
       go_wp2_with fail
       refine hKK _ _ HS2.out _ (fun _ h=>h) HS2.out ?_
       clear hKK
       repeat (go_big_quiet_step (fail))
       refine wpQuiet_nil ?_
       go_wp2
       go_loopw [5,11] (fun vo vk wy=>vo=.slice (some ⟨g,0,none⟩) out.length co∧vk=.int .i64 0∧wy=w2) (fun _ _ _=>0)
       case atStart=>exact⟨rfl,rfl,by trivial⟩
       case round =>
        obtain⟨rfl,rfl,rfl⟩:=hrel
        go_wp2
        go_roundw
        case rel=>exact⟨i+1,out,hlt,by go_num,rfl,HC,HCN2,HO2,HW2⟩
        case measure=>simp[intOf,zcz];omega
    ·obtain rfl:i=out.length:=by omega
     have HE:=aA (HC.out.end_ HII.out HCT.out)
     have HX:=aA (HO.out.mono (base':=w.heap.size) (by omega))
     generalize out.length=nn at *
     go_wp2
     go_ret
     exact⟨_,rfl,by rw[←HE.out];exact HX.out,HW.out.below⟩
theorem zil {y x:Int×Int} (he:y≠x):(∃b,((y.1==x.1)=false∧(y.2==x.2)=b))∨((y.1==x.1)=true∧(y.2==x.2)=false):=by
 by_cases e1:y.1=x.1
 ·refine .inr ⟨by rw[beq_iff_eq];exact e1,?_⟩
  rw[beq_eq_false_iff_ne]
  exact fun e2=>he (Prod.ext e1 e2)
 ·exact .inl ⟨_,by rw[beq_eq_false_iff_ne];exact e1,rfl⟩
theorem zaN (a b:List Au.It) (A A':Option Addr) (c c' B:Nat) (w:World) (ha:RdQ 2 prF w B A a) (hb:RdQ 2 prF w B A' b) (hB:B≤w.heap.size) (hla:a.length≤9223372036854775807) (r:Bool) (hr:Gm.tr (a=b)=r) :
  Calls Tryz.prog 14 #[.slice A a.length c,.slice A' b.length c'] w fun e w'=>e=.returned (.bool r)∧Below w.heap.size w w':=by
 by_cases hl:a.length=b.length
 ·have HA:=aA ha
  have HBB:=aA hb
  have HB:=aA hB
  have HR:=aA hr
  have HLQ:=aA hl
  have hlI:(a.length:Int)≤9223372036854775807:=by omega
  have hne:((a.length:Int) != (b.length:Int))=false:=by rw[hl];simp
  clear ha hb hB hr
  rw[←hl]
  rw[←hl]at hne
  clear hl
  generalize hnb:a.length=n at *
  go_enter Tryz.func14,Tryz.ntmps14
  go_wp2
  go_loopw [5] (fun vi wr=>∃i:Nat,i≤n∧vi=.int .i64 i∧Hid (∀j (h:j<a.length) (h2:j<b.length),j<i→a[j]=b[j])∧Hid (Below w.heap.size w wr)) (fun vi _=>n-(intOf vi).toNat)
  case atStart=>exact⟨0,Nat.zero_le _,rfl,aA (fun _ _ _ h=>absurd h (Nat.not_lt_zero _)),aA (Below.refl _ _)⟩
  case round =>
   obtain⟨i,hi,rfl,HE,HW⟩:=hrel
   by_cases hlt:i<n
   ·have hla':i<a.length:=by omega
    have hlb':i<b.length:=by have:=HLQ.out;omega
    obtain⟨g,o,rfl,hgB,hc⟩:=HA.out (by omega)
    obtain⟨g',o',rfl,hgB',hc'⟩:=HBB.out (by omega)
    have k0:∀z:Calm.On wr.heap.size wr,z.1.cell? ⟨g,o+i*2,none⟩=some (.int .i64 (a[i]).1):=fun z=>((HW.out.trans (z.2.mono HW.out.size)).cell (p:=⟨g,o+i*2,none⟩) (Nat.lt_of_lt_of_le hgB HB.out)).trans (hc i hla' 0 _ rfl)
    have k1:∀z:Calm.On wr.heap.size wr,z.1.cell? ⟨g,o+i*2+1,none⟩=some (.int .i64 (a[i]).2):=fun z=>((HW.out.trans (z.2.mono HW.out.size)).cell (p:=⟨g,o+i*2+1,none⟩) (Nat.lt_of_lt_of_le hgB HB.out)).trans (hc i hla' 1 _ rfl)
    have l0:∀z:Calm.On wr.heap.size wr,z.1.cell? ⟨g',o'+i*2,none⟩=some (.int .i64 (b[i]).1):=fun z=>((HW.out.trans (z.2.mono HW.out.size)).cell (p:=⟨g',o'+i*2,none⟩) (Nat.lt_of_lt_of_le hgB' HB.out)).trans (hc' i hlb' 0 _ rfl)
    have l1:∀z:Calm.On wr.heap.size wr,z.1.cell? ⟨g',o'+i*2+1,none⟩=some (.int .i64 (b[i]).2):=fun z=>((HW.out.trans (z.2.mono HW.out.size)).cell (p:=⟨g',o'+i*2+1,none⟩) (Nat.lt_of_lt_of_le hgB' HB.out)).trans (hc' i hlb' 1 _ rfl)
    have hltI:(i:Int)<(n:Int):=by omega
    have HNE:Hid (a[i]≠b[i]→r=false):=aA (fun h=>by
     rw[←HR.out,Bool.eq_false_iff]
     intro h2
     have h2:=Gm.tr_iff.1 h2
     subst h2
     exact h rfl)
    have HNX:Hid (a[i]=b[i]→∀j (h:j<a.length) (h2:j<b.length),j<i+1→a[j]=b[j]):=aA (fun h1 j h h2 h3=>by
     rcases Nat.lt_or_ge j i with q|q
     ·exact HE.out j h h2 q
     ·obtain rfl:j=i:=by omega
      exact h1)
    have HS0:Hid (∃z:Calm.On wr.heap.size wr,wr.drew=z.1):=aA ⟨⟨wr.drew,aB (Below.refl _ _) 1⟩,rfl⟩
    have HWD:Hid (Below w.heap.size w wr.drew):=aA (aB HW.out 1)
    clear hc hc' hnb
    generalize a[i]=y at *
    generalize b[i]=x at *
    by_cases he:y=x
    ·have HX:=aA (HNX.out he)
     subst he
     have hq1:(y.1==y.1)=true:=by simp
     have hq2:(y.2==y.2)=true:=by simp
     clear HNE HNX
     go_wp2_with fail
     refine CalmN.region_tree (fun x=>∃z:Calm.On wr.heap.size wr,x=z.1) (.fin [0,1,2,3,4,5,6,7,8]) (by kernel_rfl) (by kernel_rfl) (fun _ _ d _ _ h=>by cases d <;> exact h) HS0.out ?_
     simp only[CalmN.wpT,CalmN.pickOps,List.getElem?_toArray,List.getElem?_cons_zero,List.getElem?_cons_succ]
     repeat (go_big_quiet_step (fail))
     refine wpQuiet_nil ?_
     clear k0 k1 l0 l1
     go_wp2
     go_roundw
     case rel=>exact⟨i+1,hlt,by go_num,HX,HWD⟩
     case measure=>simp[intOf];omega
    ·have HF:=aA (HNE.out he)
     have hqs:=zil he
     clear HNE HNX he
     rcases hqs with⟨b0,hq1,hq2⟩|⟨hq1,hq2⟩
     all_goals
      go_wp2_with fail
      refine CalmN.region_tree (fun x=>∃z:Calm.On wr.heap.size wr,x=z.1) (.fin [0,1,2,3,4,5,6,7,8]) (by kernel_rfl) (by kernel_rfl) (fun _ _ d _ _ h=>by cases d <;> exact h) HS0.out ?_
      simp only[CalmN.wpT,CalmN.pickOps,List.getElem?_toArray,List.getElem?_cons_zero,List.getElem?_cons_succ]
      repeat (go_big_quiet_step (fail))
      refine wpQuiet_nil ?_
      clear k0 k1 l0 l1
      go_wp2
      go_ret
      exact⟨aC HF.out.symm,HWD.out⟩
   ·obtain rfl:i=n:=by omega
    have HF:Hid (r=true):=aA (by
     rw[←HR.out]
     refine Gm.tr_iff.2 (Au.items_eq (hnb.trans HLQ.out) fun j h h2=>HE.out j h h2 (by omega))
     )
    clear hnb
    go_wp2
    go_ret
    exact⟨aC HF.out.symm,HW.out⟩
 ·have HF:Hid (r=false):=aA (by
   rw[←hr,Bool.eq_false_iff]
   intro h2
   have h2:=Gm.tr_iff.1 h2
   exact hl (by rw[h2]))
  have hne:((a.length:Int) != (b.length:Int))=true:=by rw[bne_iff_ne];omega
  clear hl ha hb hr
  generalize a.length=na at *
  generalize b.length=nb at *
  go_enter Tryz.func14,Tryz.ntmps14
  go_wp2
  go_ret
  exact⟨aC HF.out.symm,Below.refl _ _⟩
theorem zdX (v:Value) (G:Gm.Gr) (B:Nat) (i:Nat) (w:World) (hg:aT w B v G) (hi:i≤100000) (ht:G.ts.length≤100000) :
  Calls Tryz.prog 36 #[v,.int .i64 (i:Nat)] w fun e w'=>e=.returned (.int .i64 (if(i:Int)<G.ts.length then(i:Int) else -1-((i:Int)-G.ts.length)))∧Below w.heap.size w w':=by
 obtain⟨AT,cT,AN,cN,AR,cR,rfl,_⟩:=hg
 have HS0:=aA (aZ.start 26 w #[.slice AT G.ts.length cT,.slice AN G.ns.length cN,.slice AR G.rs.length cR,.int .i64 G.st])
 have x0:=HS0.out.c 0 _ rfl
 obtain⟨r,hr⟩:∃r,r=(if(i:Int)<G.ts.length then(i:Int) else -1-((i:Int)-G.ts.length)):=⟨_,rfl⟩
 rw[←hr]
 by_cases hlt:(i:Int)<G.ts.length
 ·rw[if_pos hlt]at hr
  subst hr
  go_enter Tryz.func36,Tryz.ntmps36
  go_wp2
  go_ret
  exact⟨rfl,HS0.out.below⟩
 ·rw[if_neg hlt]at hr
  subst hr
  have hw1:IntKind.i64.wrap ((i:Int)-(G.ts.length:Int))=(i:Int)-(G.ts.length:Int):=IntWalk.i64_in _ (by omega)
  have hw2:IntKind.i64.wrap (-1-((i:Int)-(G.ts.length:Int))) = -1-((i:Int)-(G.ts.length:Int)):=IntWalk.i64_in _ (by omega)
  go_enter Tryz.func36,Tryz.ntmps36
  go_wp2
  go_ret
  exact⟨rfl,HS0.out.below⟩
theorem zf2 (ss:List StT) (k:List Au.It) (A A':Option Addr) (c c' B:Nat) (w:World) (hs:bI w B A ss) (hk:RdQ 2 prF w B A' k) (hB:B≤w.heap.size) (hn:ss.length≤100000) (hl:∀x∈ss,x.1.length≤9223372036854775807) :
  Calls Tryz.prog 38 #[.slice A ss.length c,.slice A' k.length c'] w fun e w'=>e=.returned (.int .i64 (Au.fnd (ss.map (·.1)) k))∧Below w.heap.size w w':=by
 have HS:=aA hs
 have HK:=aA hk
 have HB:=aA hB
 have HL:=aA hl
 have hnI:(ss.length:Int)≤100000:=by omega
 clear hs hk hB hl
 go_enter Tryz.func38,Tryz.ntmps38
 go_wp2
 go_loopw [5] (fun vi wr=>∃i:Nat,i≤ss.length∧vi=.int .i64 i∧Hid (∀j (_:j<i) (h:j<ss.length),(ss[j]).1≠k)∧Hid (Below w.heap.size w wr)) (fun vi _=>ss.length-(intOf vi).toNat)
 case atStart=>exact⟨0,Nat.zero_le _,rfl,aA (fun _ h=>absurd h (Nat.not_lt_zero _)),aA (Below.refl _ _)⟩
 case round =>
  obtain⟨i,hi,rfl,HE,HW⟩:=hrel
  by_cases hlt:i<ss.length
  ·obtain⟨g,o,rfl,hgB,hc⟩:=HS.out (by omega)
   obtain⟨A2,c2,k1,_,_,hr2⟩:=(hc i hlt).1
   have k1:=(HW.out.cell (p:=⟨g,o+i*2,none⟩) (Nat.lt_of_lt_of_le hgB HB.out)).trans k1
   have HIT:=aA (fun r (hr:Gm.tr ((ss[i]).1=k)=r)=>zaN (ss[i]).1 k A2 A' c2 c' B wr (hr2.below HW.out HB.out) (HK.out.below HW.out HB.out) (Nat.le_trans HB.out HW.out.size) (HL.out _ (List.getElem_mem hlt)) r hr)
   have HYE:Hid ((ss[i]).1=k→Au.fnd (ss.map (·.1)) k=(i:Int)):=aA (fun e=>Au.fnd_skip (fun j hj hl=>by
    rw[List.getElem_map]
    exact HE.out j hj (by simpa using hl)) (by simpa using hlt) (by rw[List.getElem_map];exact e))
   have HNO:Hid ((ss[i]).1≠k→∀j (_:j<i+1) (h:j<ss.length),(ss[j]).1≠k):=aA (fun e j hj h=>by
    rcases Nat.lt_or_ge j i with q|q
    ·exact HE.out j q h
    ·obtain rfl:j=i:=by omega
     exact e)
   clear hc hr2
   generalize (ss[i]).1=ki at *
   by_cases he:ki=k
   ·have HF:=aA (HYE.out he)
    have HIX:=aA (HIT.out true (Gm.tr_iff.2 he))
    clear he HYE HNO
    go_wp2_with fail
    refine HIX.out.mono ?_;rintro _ w2 ⟨rfl,hb⟩
    have HW2:=aA (HW.out.trans (hb.mono HW.out.size))
    clear hb k1
    go_wp2
    go_ret
    exact⟨zal HF.out.symm,HW2.out⟩
   ·have HF:=aA (HNO.out he)
    have HIX:=aA (HIT.out false (by rw[Bool.eq_false_iff];exact fun h=>he (Gm.tr_iff.1 h)))
    clear he HYE HNO
    go_wp2_with fail
    refine HIX.out.mono ?_;rintro _ w2 ⟨rfl,hb⟩
    have HW2:=aA (HW.out.trans (hb.mono HW.out.size))
    clear hb k1
    go_wp2
    go_roundw
    case rel=>exact⟨i+1,hlt,by go_num,HF,HW2⟩
    case measure=>simp[intOf];omega
  ·obtain rfl:i=ss.length:=by omega
   have HF:Hid (Au.fnd (ss.map (·.1)) k = -1):=aA (by
    have h1:Au.fnd (ss.map (·.1)) k<0:=Au.fnd_no.2 fun h=>by
     obtain⟨x,hx,e⟩:=List.mem_map.1 h
     obtain⟨j,hj,rfl⟩:=List.getElem_of_mem hx
     exact HE.out j hj hj e
    have key:∀l:List (List Au.It),Au.fnd l k<0→Au.fnd l k = -1:=fun l=>by
     induction l with
     | nil=>intro _;rfl
     | cons y l ih =>
      intro h
      rw[Au.fnd]at h ⊢
      split at h
      ·omega
      ·rename_i hn
       rw[if_neg hn]
       split at h
       ·rename_i hq
        rw[if_pos hq]
       ·omega
    exact key _ h1)
   go_wp2
   go_ret
   exact⟨zal HF.out.symm,HW.out⟩
end Go.Proofs.YtabmfpgpkbndeaaGreat
