/- Part of the proofs over this program: CfgSame2, TrimReduce, AuFn, ApQ, ItE, AuAdd, AuAdd2, AuBegin, Sort, AuSort. -/
import Derived.Maps.Keyed
import Derived.DeepKeys4
import Derived.Shelf.SlGeneric
import Derived.Shelf.SlSortCmp.NoneTotal
import Derived.Ground.SlsfProg
import Derived.Ground.NamesProg
import Derived.Test.YtabmfpgpkbndeaaGreatKAJ
namespace Go.Proofs.YtabmfpgpkbndeaaGreat
set_option maxRecDepth 100000
set_option maxHeartbeats 40000000
open Go.RowKit
noncomputable def Gm.same (G H:Gm.Gr):Bool:=eqb G.ts H.ts&&eqb G.ns H.ns&&eqb G.rs H.rs&&eqb G.st H.st
theorem Gm.same_self (G:Gm.Gr):Gm.same G G=true:=by
 unfold Gm.same
 rw[zaf rfl,zaf rfl,zaf rfl,zaf rfl];rfl
theorem zbo (w:World) (o o':Obj) (n:Nat):(((w.alloc o).alloc o').drewN n).heap[w.heap.size]?=some o:=by
 show((w.alloc o).alloc o').heap[w.heap.size]?=some o
 rw[Below.heap_alloc _ _ _ (by simp)]
 exact heap_alloc_new w o
theorem zbn (w:World) (o o':Obj) (n:Nat):(((w.alloc o).alloc o').drewN n).heap[w.heap.size+1]?=some o':=by
 have:=heap_alloc_new (w.alloc o) o'
 simpa[World.drewN] using this
theorem zgm (v u:Value) (G H:Gm.Gr) (B B':Nat) (w:World) (hg:aT w B v G) (hh:aT w B' u H) (fg:Gm.Fit G) (fh:Gm.Fit H) (hB:B≤w.heap.size) (hB':B'≤w.heap.size) :
  Calls Tryz.prog 60 #[v,u] w fun e w'=>e=.returned (.bool (Gm.same G H))∧Below w.heap.size w w':=by
 have HB0:=aA (fun o o'=>((Below.refl w.heap.size w).alloc (Nat.le_refl _) o).alloc (by simp) o')
 obtain⟨AT,cT,AN,cN,AR,cR,rfl,⟨hlT,hmT⟩,⟨hlN,hmN⟩,⟨hlR,hmR⟩,ht,hn,hr⟩:=hg
 obtain⟨BT,dT,BN,dN,BR,dR,rfl,_,_,_,gt,gn,gr⟩:=hh
 have H1:=aA (fun(x:World) (h:Below w.heap.size w x)=>zgr AT BT cT dT B B' G.ts H.ts x (ht.keep fun g o hg=>h.cell (p:=⟨g,o,none⟩) (Nat.lt_of_lt_of_le hg hB)) (gt.keep fun g o hg=>h.cell (p:=⟨g,o,none⟩) (Nat.lt_of_lt_of_le hg hB')) (fun x hx=>(fg.t x hx).1) (fun x hx=>(fh.t x hx).1) (by omega))
 have H2:=aA (fun(x:World) (h:Below w.heap.size w x)=>zgs AN BN cN dN B B' G.ns H.ns x (hn.keep fun g o hg=>h.cell (p:=⟨g,o,none⟩) (Nat.lt_of_lt_of_le hg hB)) (gn.keep fun g o hg=>h.cell (p:=⟨g,o,none⟩) (Nat.lt_of_lt_of_le hg hB')) (fun x hx=>fg.n x hx) (fun x hx=>fh.n x hx) (by omega))
 have H3:=aA (fun(x:World) (h:Below w.heap.size w x)=>zhr AR BR cR dR B B' G.rs H.rs x (hr.keep fun g o hg=>h.cell (p:=⟨g,o,none⟩) (Nat.lt_of_lt_of_le hg hB)) (gr.keep fun g o hg=>h.cell (p:=⟨g,o,none⟩) (Nat.lt_of_lt_of_le hg hB')) (Nat.le_trans hB h.size) (Nat.le_trans hB' h.size) (by omega))
 have e4:=zd8 G.st H.st
 unfold Gm.same
 clear ht hn hr gt gn gr hlT hmT hlN hmN hlR hmR fg fh hB hB'
 generalize G.st=st at *
 generalize H.st=st' at *
 cases q1:eqb G.ts H.ts
 ·rw[q1]at H1
  clear q1 e4 H2 H3
  go_enter Tryz.func60,Tryz.ntmps60
  go_wp2_with fail
  refine(H1.out _ (HB0.out _ _)).mono ?_;rintro _ w2 ⟨rfl,hd⟩
  have HD:=aA ((HB0.out _ _).trans ((zbI hd).mono (by simp;omega)))
  clear hd
  go_wp2
  go_ret
  exact⟨rfl,HD.out⟩
 ·rw[q1]at H1
  clear q1
  cases q2:eqb G.ns H.ns
  ·rw[q2]at H2
   clear q2 e4 H3
   go_enter Tryz.func60,Tryz.ntmps60
   go_wp2_with fail
   refine(H1.out _ (HB0.out _ _)).mono ?_;rintro _ w2 ⟨rfl,n1,rfl⟩
   go_wp2_with fail
   refine(H2.out _ (aB (HB0.out _ _) _)).mono ?_;rintro _ w3 ⟨rfl,n2,rfl⟩
   go_wp2
   go_ret
   exact⟨rfl,aB (HB0.out _ _) _⟩
  ·rw[q2]at H2
   clear q2
   cases q3:eqb G.rs H.rs
   ·rw[q3]at H3
    clear q3 e4
    go_enter Tryz.func60,Tryz.ntmps60
    go_wp2_with fail
    refine(H1.out _ (HB0.out _ _)).mono ?_;rintro _ w2 ⟨rfl,n1,rfl⟩
    go_wp2_with fail
    refine(H2.out _ (aB (HB0.out _ _) _)).mono ?_;rintro _ w3 ⟨rfl,n2,rfl⟩
    go_wp2_with fail
    refine(H3.out _ (aB (HB0.out _ _) _)).mono ?_;rintro _ w4 ⟨rfl,hb⟩
    have HD:=aA ((aB (HB0.out _ _) _).trans (hb.mono (by simp[World.drewN];omega)))
    clear hb
    go_wp2
    go_ret
    exact⟨rfl,HD.out⟩
   ·rw[q3]at H3
    clear q3
    generalize eqb st st'=b4 at *
    go_enter Tryz.func60,Tryz.ntmps60
    go_wp2_with fail
    refine(H1.out _ (HB0.out _ _)).mono ?_;rintro _ w2 ⟨rfl,n1,rfl⟩
    go_wp2_with fail
    refine(H2.out _ (aB (HB0.out _ _) _)).mono ?_;rintro _ w3 ⟨rfl,n2,rfl⟩
    go_wp2_with fail
    refine(H3.out _ (aB (HB0.out _ _) _)).mono ?_;rintro _ w4 ⟨rfl,hb⟩
    have HD:=aA ((aB (HB0.out _ _) _).trans (hb.mono (by simp[World.drewN];omega)))
    have b0:=(hb.block w.heap.size (by simp[World.drewN];omega)).trans (zbo w _ _ _)
    have b1:=(hb.block (w.heap.size+1) (by simp[World.drewN])).trans (zbn w _ _ _)
    have z0:w.heap.size<w4.heap.size:=(Array.getElem?_eq_some_iff.1 b0).1
    have z1:w.heap.size+1<w4.heap.size:=(Array.getElem?_eq_some_iff.1 b1).1
    have c0:=cell_of_row w4 _ 3 _ _ _ b0
    have c1:=cell_of_row w4 _ 3 _ _ _ b1
    clear hb b0 b1
    go_wp2
    go_ret
    exact⟨aC (by simp),HD.out⟩
def Two (w:World) (a b:Array Value) (wr:World):Prop:=Below (w.heap.size+2) ((w.alloc (.cells a 26)).alloc (.cells b 26)) wr
theorem Two.start (w:World) (a b:Array Value):Two w a b ((w.alloc (.cells a 26)).alloc (.cells b 26)):=Below.refl _ _
theorem Two.size {w wr:World} {a b:Array Value} (h:Two w a b wr):w.heap.size+2≤wr.heap.size:=by have:=Below.size h;simpa using this
theorem Two.below {w wr:World} {a b:Array Value} (h:Two w a b wr):Below w.heap.size w wr:=(((Below.refl w.heap.size w).alloc (Nat.le_refl _) _).alloc (by simp) _).trans (Below.mono h (by omega))
theorem Two.on {w wr wt:World} {a b:Array Value} (h:Two w a b wr) (k:Below wr.heap.size wr wt):Two w a b wt:=Below.trans h (k.mono h.size)
theorem Two.drewN {w wr:World} {a b:Array Value} (h:Two w a b wr) (n:Nat):Two w a b (wr.drewN n):=aB h n
theorem Two.drew {w wr:World} {a b:Array Value} (h:Two w a b wr):Two w a b wr.drew:=aB h 1
theorem Two.alloc {w wr:World} {a b:Array Value} (h:Two w a b wr) (o:Obj):Two w a b (wr.alloc o):=Below.alloc h h.size o
theorem Two.c0 {w wr:World} {a b:Array Value} (h:Two w a b wr) (j:Nat) (u:Value) (hj:a[j]?=some u):wr.cell? ⟨w.heap.size,j,none⟩=some u:=by
 have b0:=(Below.block h w.heap.size (by omega)).trans (zbo w _ _ 0)
 exact(cell_of_row wr _ j _ _ _ b0).trans hj
theorem Two.c1 {w wr:World} {a b:Array Value} (h:Two w a b wr) (j:Nat) (u:Value) (hj:b[j]?=some u):wr.cell? ⟨w.heap.size+1,j,none⟩=some u:=by
 have b0:=(Below.block h (w.heap.size+1) (by omega)).trans (zbn w _ _ 0)
 exact(cell_of_row wr _ j _ _ _ b0).trans hj
theorem zfP (v u:Value) (G H:Gm.Gr) (B B':Nat) (w:World) (hg:aT w B v G) (hh:aT w B' u H) (fg:Gm.Fit G) (fh:Gm.Fit H) (hB:B≤w.heap.size) (hB':B'≤w.heap.size) :
  Calls Tryz.prog 42 #[v,u] w fun e w'=>e=.returned (.bool (Gm.same G H))∧Below w.heap.size w w':=by
 have HB0:=aA (fun o o'=>((Below.refl w.heap.size w).alloc (Nat.le_refl _) o).alloc (by simp) o')
 obtain⟨AT,cT,AN,cN,AR,cR,rfl,⟨hlT,hmT⟩,⟨hlN,hmN⟩,⟨hlR,hmR⟩,ht,hn,hr⟩:=hg
 obtain⟨BT,dT,BN,dN,BR,dR,rfl,_,_,_,gt,gn,gr⟩:=hh
 by_cases h1:G.ts.length=H.ts.length
 case neg =>
  have HE:Hid (Gm.same G H=false):=aA (by unfold Gm.same;rw[zap h1];rfl)
  have h1':((G.ts.length:Int) != (H.ts.length:Int))=true:=by simp;omega
  rw[HE.out]
  clear ht hn hr gt gn gr hlT hmT hlN hmN hlR hmR fg fh hB hB' h1
  go_enter Tryz.func42,Tryz.ntmps42
  go_wp2
  go_ret
  exact⟨rfl,HB0.out _ _⟩
 by_cases h2:G.ns.length=H.ns.length
 case neg =>
  have HE:Hid (Gm.same G H=false):=aA (by unfold Gm.same;rw[zap h2];simp)
  have h1':((G.ts.length:Int) != (H.ts.length:Int))=false:=by simp;omega
  have h2':((G.ns.length:Int) != (H.ns.length:Int))=true:=by simp;omega
  rw[HE.out]
  clear ht hn hr gt gn gr hlT hmT hlN hmN hlR hmR fg fh hB hB' h1 h2
  go_enter Tryz.func42,Tryz.ntmps42
  go_wp2
  go_ret
  exact⟨rfl,HB0.out _ _⟩
 by_cases h3:G.rs.length=H.rs.length
 case neg =>
  have HE:Hid (Gm.same G H=false):=aA (by unfold Gm.same;rw[zap h3];simp)
  have h1':((G.ts.length:Int) != (H.ts.length:Int))=false:=by simp;omega
  have h2':((G.ns.length:Int) != (H.ns.length:Int))=false:=by simp;omega
  have h3':((G.rs.length:Int) != (H.rs.length:Int))=true:=by simp;omega
  rw[HE.out]
  clear ht hn hr gt gn gr hlT hmT hlN hmN hlR hmR fg fh hB hB' h1 h2 h3
  go_enter Tryz.func42,Tryz.ntmps42
  go_wp2
  go_ret
  exact⟨rfl,HB0.out _ _⟩
 by_cases h4:G.st=H.st
 case neg =>
  have HE:Hid (Gm.same G H=false):=aA (by unfold Gm.same;rw[zau h4];simp)
  have h1':((G.ts.length:Int) != (H.ts.length:Int))=false:=by simp;omega
  have h2':((G.ns.length:Int) != (H.ns.length:Int))=false:=by simp;omega
  have h3':((G.rs.length:Int) != (H.rs.length:Int))=false:=by simp;omega
  have h4':(G.st != H.st)=true:=by simpa using h4
  rw[HE.out]
  clear ht hn hr gt gn gr hlT hmT hlN hmN hlR hmR fg fh hB hB' h1 h2 h3 h4
  go_enter Tryz.func42,Tryz.ntmps42
  go_wp2
  go_ret
  exact⟨rfl,HB0.out _ _⟩
 have h1':((G.ts.length:Int) != (H.ts.length:Int))=false:=by simp;omega
 have h2':((G.ns.length:Int) != (H.ns.length:Int))=false:=by simp;omega
 have h3':((G.rs.length:Int) != (H.rs.length:Int))=false:=by simp;omega
 have h4':(G.st != H.st)=false:=by simpa using h4
 have HES:Hid (Gm.same G H=(eqb G.ts H.ts&&eqb G.ns H.ns&&eqb G.rs H.rs)):=aA (by unfold Gm.same;rw[zaf h4];simp)
 have HT:=aA ht
 have HN:=aA hn
 have HR:=aA hr
 have GT:=aA gt
 have GN:=aA gn
 have GR:=aA gr
 have FT:=aA (fun i (h:i<G.ts.length)=>(fg.t _ (List.getElem_mem h)).1)
 have FT':=aA (fun i (h:i<H.ts.length)=>(fh.t _ (List.getElem_mem h)).1)
 have FN:=aA (fun i (h:i<G.ns.length)=>fg.n _ (List.getElem_mem h))
 have FN':=aA (fun i (h:i<H.ns.length)=>fh.n _ (List.getElem_mem h))
 have L1:=aA h1
 have L2:=aA h2
 have L3:=aA h3
 have hs0:=Two.start w #[.slice AT G.ts.length cT,.slice AN G.ns.length cN,.slice AR G.rs.length cR,.int .i64 G.st] #[.slice BT H.ts.length dT,.slice BN H.ns.length dN,.slice BR H.rs.length dR,.int .i64 H.st]
 have HS0:=aA hs0
 clear ht hn hr gt gn gr fg fh h1 h2 h3 h4 HB0 hs0
 go_enter Tryz.func42,Tryz.ntmps42
 go_wp2
 go_loopw [5] (fun vi wr=>∃(k:Nat),k≤G.ts.length∧vi=.int .i64 k∧aY G.ts H.ts k∧Two w #[.slice AT G.ts.length cT,.slice AN G.ns.length cN,.slice AR G.rs.length cR,.int .i64 G.st] #[.slice BT H.ts.length dT,.slice BN H.ns.length dN,.slice BR H.rs.length dR,.int .i64 H.st] wr) (fun vi _=>G.ts.length-(intOf vi).toNat)
 case atStart=>exact⟨0,Nat.zero_le _,rfl,aY.zero _ _,HS0.out⟩
 case round =>
  obtain⟨k,hk,rfl,ha,hb⟩:=hrel
  have HA:=aA ha
  have HB:=aA hb
  have q00:=hb.c0 0 _ rfl
  have q10:=hb.c1 0 _ rfl
  have q01:=hb.c0 1 _ rfl
  have hz:=hb.size
  have hbw:=hb.below
  clear ha hb
  by_cases hlt:k<G.ts.length
  ·have hlt2:k<H.ts.length:=by have:=L1.out;omega
   clear q01
   obtain⟨ga,oa,rfl,hga,ca⟩:=HT.out (by omega)
   obtain⟨gb,ob,rfl,hgb,cb⟩:=GT.out (by omega)
   have a0:=(hbw.cell (p:=⟨ga,oa+k*3,none⟩) (Nat.lt_of_lt_of_le hga hB)).trans (ca k hlt).1
   have a1:=(hbw.cell (p:=⟨ga,oa+k*3+1,none⟩) (Nat.lt_of_lt_of_le hga hB)).trans (ca k hlt).2.1
   have a2:=(hbw.cell (p:=⟨ga,oa+k*3+2,none⟩) (Nat.lt_of_lt_of_le hga hB)).trans (ca k hlt).2.2
   have b0:=(hbw.cell (p:=⟨gb,ob+k*3,none⟩) (Nat.lt_of_lt_of_le hgb hB')).trans (cb k hlt2).1
   have b1:=(hbw.cell (p:=⟨gb,ob+k*3+1,none⟩) (Nat.lt_of_lt_of_le hgb hB')).trans (cb k hlt2).2.1
   have b2:=(hbw.cell (p:=⟨gb,ob+k*3+2,none⟩) (Nat.lt_of_lt_of_le hgb hB')).trans (cb k hlt2).2.2
   have hE0:=zfx (FT.out k hlt) (FT'.out k hlt2)
   have E:=fun w=>zfy (K.str G.ts[k].nm) (K.str H.ts[k].nm) G.ts[k].lv H.ts[k].lv G.ts[k].wy H.ts[k].wy w
   rw[hE0]at E
   have hga':ga<wr.heap.size:=by omega
   have hgb':gb<wr.heap.size:=by omega
   have kk0:(0:Int)≤(k:Int):=by omega
   have kk1:(k:Int)<(G.ts.length:Int):=by omega
   have kk2:(k:Int)<(H.ts.length:Int):=by omega
   clear hE0 ca cb hbw HT GT FT FT'
   by_cases hxy:G.ts[k]=H.ts[k]
   ·have HX:Hid (aY G.ts H.ts (k+1)):=aA (HA.out.next hlt hlt2 hxy)
    rw[zaf hxy]at E
    clear hxy
    generalize K.str G.ts[k].nm=x0 at *
    generalize K.str H.ts[k].nm=y0 at *
    generalize G.ts[k].lv=x1 at *
    generalize H.ts[k].lv=y1 at *
    generalize G.ts[k].wy=x2 at *
    generalize H.ts[k].wy=y2 at *
    go_wp2_with fail
    go_quiet (fail)
    go_wp2
    go_roundw
    case rel=>exact⟨k+1,hlt,by go_num,HX.out,HB.out.drewN _⟩
    case measure=>simp[intOf];omega
   ·have HX:Hid (Gm.same G H=false):=aA (by rw[HES.out,zaY hlt hlt2 hxy];rfl)
    rw[zau hxy]at E
    clear hxy
    generalize K.str G.ts[k].nm=x0 at *
    generalize K.str H.ts[k].nm=y0 at *
    generalize G.ts[k].lv=x1 at *
    generalize H.ts[k].lv=y1 at *
    generalize G.ts[k].wy=x2 at *
    generalize H.ts[k].wy=y2 at *
    go_wp2_with fail
    go_quiet (fail)
    go_wp2
    go_ret
    exact⟨aC HX.out.symm,(HB.out.drewN _).below⟩
  ·obtain rfl:k=G.ts.length:=by omega
   have HEE:Hid (Gm.same G H=(eqb G.ns H.ns&&eqb G.rs H.rs)):=aA (by rw[HES.out,HA.out.all rfl L1.out];rfl)
   clear hbw HES hk
   go_wp2
   go_loopw [6] (fun vi wr=>∃(k:Nat),k≤G.ns.length∧vi=.int .i64 k∧aY G.ns H.ns k∧Two w #[.slice AT G.ts.length cT,.slice AN G.ns.length cN,.slice AR G.rs.length cR,.int .i64 G.st] #[.slice BT H.ts.length dT,.slice BN H.ns.length dN,.slice BR H.rs.length dR,.int .i64 H.st] wr) (fun vi _=>G.ns.length-(intOf vi).toNat)
   case atStart=>exact⟨0,Nat.zero_le _,rfl,aY.zero _ _,HB.out⟩
   case round =>
    clear q00 q10 q01 hz HB
    obtain⟨k,hk,rfl,ha,hb⟩:=hrel
    have HA2:=aA ha
    have HB:=aA hb
    have q01:=hb.c0 1 _ rfl
    have q11:=hb.c1 1 _ rfl
    have q02:=hb.c0 2 _ rfl
    have hz:=hb.size
    have hbw:=hb.below
    clear ha hb
    by_cases hlt:k<G.ns.length
    ·have hlt2:k<H.ns.length:=by have:=L2.out;omega
     clear q02
     obtain⟨ga,oa,rfl,hga,ca⟩:=HN.out (by omega)
     obtain⟨gb,ob,rfl,hgb,cb⟩:=GN.out (by omega)
     have a0:=(hbw.cell (p:=⟨ga,oa+k,none⟩) (Nat.lt_of_lt_of_le hga hB)).trans (ca k hlt)
     have b0:=(hbw.cell (p:=⟨gb,ob+k,none⟩) (Nat.lt_of_lt_of_le hgb hB')).trans (cb k hlt2)
     have E:=K.eqB (FN.out k hlt) (FN'.out k hlt2)
     have hga':ga<wr.heap.size:=by omega
     have hgb':gb<wr.heap.size:=by omega
     have kk0:(0:Int)≤(k:Int):=by omega
     have kk1:(k:Int)<(G.ns.length:Int):=by omega
     have kk2:(k:Int)<(H.ns.length:Int):=by omega
     clear ca cb hbw HN GN FN FN'
     by_cases hxy:G.ns[k]=H.ns[k]
     ·have HX:Hid (aY G.ns H.ns (k+1)):=aA (HA2.out.next hlt hlt2 hxy)
      rw[decide_eq_true hxy]at E
      have E':((K.str G.ns[k]).toList != (K.str H.ns[k]).toList)=false:=by rw[bne,E];rfl
      clear hxy
      generalize K.str G.ns[k]=x0 at *
      generalize K.str H.ns[k]=y0 at *
      go_wp2_with fail
      go_quiet (fail)
      go_wp2
      go_roundw
      case rel=>exact⟨k+1,hlt,by go_num,HX.out,HB.out.drewN _⟩
      case measure=>simp[intOf];omega
     ·have HX:Hid (Gm.same G H=false):=aA (by rw[HEE.out,zaY hlt hlt2 hxy];rfl)
      rw[decide_eq_false hxy]at E
      have E':((K.str G.ns[k]).toList != (K.str H.ns[k]).toList)=true:=by rw[bne,E];rfl
      clear hxy
      generalize K.str G.ns[k]=x0 at *
      generalize K.str H.ns[k]=y0 at *
      go_wp2_with fail
      go_quiet (fail)
      go_wp2
      go_ret
      exact⟨aC HX.out.symm,(HB.out.drewN _).below⟩
    ·obtain rfl:k=G.ns.length:=by omega
     have HE3:Hid (Gm.same G H=eqb G.rs H.rs):=aA (by rw[HEE.out,HA2.out.all rfl L2.out];rfl)
     clear hbw HEE hk
     go_wp2
     go_loopw [7] (fun vi wr=>∃(k:Nat),k≤G.rs.length∧vi=.int .i64 k∧aY G.rs H.rs k∧Two w #[.slice AT G.ts.length cT,.slice AN G.ns.length cN,.slice AR G.rs.length cR,.int .i64 G.st] #[.slice BT H.ts.length dT,.slice BN H.ns.length dN,.slice BR H.rs.length dR,.int .i64 H.st] wr) (fun vi _=>G.rs.length-(intOf vi).toNat)
     case atStart=>exact⟨0,Nat.zero_le _,rfl,aY.zero _ _,HB.out⟩
     case round =>
      clear q01 q11 q02 hz HB
      obtain⟨k,hk,rfl,ha,hb⟩:=hrel
      have HA3:=aA ha
      have HB:=aA hb
      have q02:=hb.c0 2 _ rfl
      have q12:=hb.c1 2 _ rfl
      have hz:=hb.size
      have hbw:=hb.below
      clear ha hb
      by_cases hlt:k<G.rs.length
      ·have hlt2:k<H.rs.length:=by have:=L3.out;omega
       obtain⟨ga,oa,rfl,hga,ca⟩:=HR.out (by omega)
       obtain⟨gb,ob,rfl,hgb,cb⟩:=GR.out (by omega)
       obtain⟨a0,⟨Aa,cca,a1,_,_,ra⟩,a2⟩:=ca k hlt
       obtain⟨b0,⟨Ab,ccb,b1,_,_,rb⟩,b2⟩:=cb k hlt2
       have hls:G.rs[k].r.length≤9223372036854775807:=by omega
       have hls2:H.rs[k].r.length≤9223372036854775807:=by omega
       have a0:=(hbw.cell (p:=⟨ga,oa+k*3,none⟩) (Nat.lt_of_lt_of_le hga hB)).trans a0
       have a1:=(hbw.cell (p:=⟨ga,oa+k*3+1,none⟩) (Nat.lt_of_lt_of_le hga hB)).trans a1
       have a2:=(hbw.cell (p:=⟨ga,oa+k*3+2,none⟩) (Nat.lt_of_lt_of_le hga hB)).trans a2
       have b0:=(hbw.cell (p:=⟨gb,ob+k*3,none⟩) (Nat.lt_of_lt_of_le hgb hB')).trans b0
       have b1:=(hbw.cell (p:=⟨gb,ob+k*3+1,none⟩) (Nat.lt_of_lt_of_le hgb hB')).trans b1
       have b2:=(hbw.cell (p:=⟨gb,ob+k*3+2,none⟩) (Nat.lt_of_lt_of_le hgb hB')).trans b2
       have HS:=aA (fun(z:World) (h:Below w.heap.size w z)=>zhm Aa Ab cca ccb G.rs[k].r H.rs[k].r z ((ra.keep fun g o hg=>h.cell (p:=⟨g,o,none⟩) (Nat.lt_of_lt_of_le hg hB)).more (Nat.le_trans hB h.size)) ((rb.keep fun g o hg=>h.cell (p:=⟨g,o,none⟩) (Nat.lt_of_lt_of_le hg hB')).more (Nat.le_trans hB' h.size)) hls hls2)
       have hga':ga<wr.heap.size:=by omega
       have hgb':gb<wr.heap.size:=by omega
       have kk0:(0:Int)≤(k:Int):=by omega
       have kk1:(k:Int)<(G.rs.length:Int):=by omega
       have kk2:(k:Int)<(H.rs.length:Int):=by omega
       have x8:=aA (hbw)
       have CL:=aA (fun(y:Calm.On wr.heap.size wr) (g j:Nat) (u:Value) (hg:g<wr.heap.size) (h:wr.cell? ⟨g,j,none⟩=some u)=>(y.2.cell (p:=⟨g,j,none⟩) hg).trans h)
       have R0:=fun y:Calm.On wr.heap.size wr=>CL.out y _ _ _ (by omega) q02
       have R1:=fun y:Calm.On wr.heap.size wr=>CL.out y _ _ _ (by omega) q12
       have A0:=fun y:Calm.On wr.heap.size wr=>CL.out y _ _ _ hga' a0
       have A1:=fun y:Calm.On wr.heap.size wr=>CL.out y _ _ _ hga' a1
       have A2:=fun y:Calm.On wr.heap.size wr=>CL.out y _ _ _ hga' a2
       have B0:=fun y:Calm.On wr.heap.size wr=>CL.out y _ _ _ hgb' b0
       have B1:=fun y:Calm.On wr.heap.size wr=>CL.out y _ _ _ hgb' b1
       have B2:=fun y:Calm.On wr.heap.size wr=>CL.out y _ _ _ hgb' b2
       have HZ3:=aA (fun o o':Obj=>aB (((Below.refl wr.heap.size wr).alloc (Nat.le_refl _) o).alloc (by simp) o') 1)
       have HZ1:=aA (fun o:Obj=>(aB (Below.refl wr.heap.size wr) 1).alloc (Nat.le_refl _) o)
       have HZ2:=aA (fun o o':Obj=>((aB (Below.refl wr.heap.size wr) 1).alloc (Nat.le_refl _) o).alloc (by simp) o')
       go_wp2_with fail
       refine Calm.region_tree (fun x=>∃y:Calm.On wr.heap.size wr,x=y.1) (.two [0,1,2,3,4,5,6,7,8,9] 10 (.one [] 11 (.one [] 12 (.one [] 13 (.fin [])))) 11 (.one [] 10 (.one [] 12 (.one [] 13 (.fin []))))) (by kernel_rfl) (by kernel_rfl) (fun _ _ d _ _ h=>by cases d <;> exact h) ⟨⟨wr.drew,aB (Below.refl _ _) 1⟩,rfl⟩ ?_
       clear q02 q12 a0 a1 a2 b0 b1 b2
       simp only[Calm.wpT,Calm.wpSt,Calm.pickOps,List.getElem?_toArray,List.getElem?_cons_zero,List.getElem?_cons_succ]
       repeat (go_big_quiet_step (fail))
       refine wpQuiet_nil ?_
       clear R0 R1 A0 A1 A2 B0 B1 B2
       refine⟨?_,?_⟩
       ·intro KK hKK
        rw[if_pos (by rfl)]
        go_wp2_with fail
        refine hKK _ _ ⟨⟨_,HZ1.out _⟩,rfl⟩ (fun x=>∃y:Calm.On wr.heap.size wr,x=y.1) (fun _ h=>h) ⟨⟨_,HZ1.out _⟩,rfl⟩ ?_
        refine wpQuiet_nil ?_
        intro KK hKK
        rw[if_pos (by rfl)]
        go_wp2_with fail
        refine hKK _ _ ⟨⟨_,HZ2.out _ _⟩,rfl⟩ (fun x=>∃y:Calm.On wr.heap.size wr,x=y.1) (fun _ h=>h) ⟨⟨_,HZ2.out _ _⟩,rfl⟩ ?_
        refine wpQuiet_nil ?_
        intro KK hKK
        rw[if_pos (by rfl)]
        go_wp2_with fail
        refine hKK _ _ ⟨⟨_,HZ3.out _ _⟩,rfl⟩ (fun x=>∃y:Calm.On wr.heap.size wr,x=y.1) (fun _ h=>h) ⟨⟨_,HZ3.out _ _⟩,rfl⟩ ?_
        refine wpQuiet_nil ?_
        intro KK hKK
        rw[if_pos (by rfl)]
        go_wp2_with fail
        refine hKK _ _ ⟨⟨_,HZ3.out _ _⟩,rfl⟩ (fun x=>∃y:Calm.On wr.heap.size wr,x=y.1) (fun _ h=>h) ⟨⟨_,HZ3.out _ _⟩,rfl⟩ ?_
        refine wpQuiet_nil ?_
        have HBZ:=aA (fun o o':Obj=>(HB.out.on (HZ3.out o o')))
        have HBN:=aA (fun(o o':Obj) (n:Nat)=>(HB.out.on (aB (((Below.refl wr.heap.size wr).alloc (Nat.le_refl _) o).alloc (by simp) o') n)))
        clear hKK
        generalize qx:G.rs[k]=x at *
        generalize qy:H.rs[k]=y at *
        have QX:=aA qx
        have QY:=aA qy
        clear qx qy
        by_cases hx1:x.l=y.l
        case neg =>
         have HX:Hid (Gm.same G H=false):=aA (by rw[HE3.out,zaY hlt hlt2 (fun e=>hx1 (by rw[←QX.out,←QY.out];exact congrArg Gm.Rl.l e))])
         have e1:(x.l != y.l)=true:=by simpa using hx1
         clear hx1
         go_wp2_with fail
         go_ret
         exact⟨aC HX.out.symm,(HBZ.out _ _).below⟩
        have e1:(x.l != y.l)=false:=by simpa using hx1
        by_cases hx2:x.p=y.p
        case neg =>
         have HX:Hid (Gm.same G H=false):=aA (by rw[HE3.out,zaY hlt hlt2 (fun e=>hx2 (by rw[←QX.out,←QY.out];exact congrArg Gm.Rl.p e))])
         have e2:(x.p != y.p)=true:=by simpa using hx2
         clear hx1 hx2
         go_wp2_with fail
         go_ret
         exact⟨aC HX.out.symm,(HBZ.out _ _).below⟩
        have e2:(x.p != y.p)=false:=by simpa using hx2
        by_cases hx3:x.r=y.r
        ·have HX:Hid (aY G.rs H.rs (k+1)):=aA (HA3.out.next hlt hlt2 (QX.out.trans (Eq.trans (by cases x;cases y;simp_all) QY.out.symm)))
         rw[decide_eq_true hx3]at HS
         clear hx1 hx2 hx3
         go_wp2_with fail
         refine(HS.out _ (HBZ.out _ _).below).mono ?_;rintro _ w6 ⟨rfl,n6,rfl⟩
         go_wp2
         go_roundw
         case rel=>exact⟨k+1,hlt,by go_num,HX.out,HBN.out _ _ _⟩
         case measure=>simp[intOf];omega
        ·have HX:Hid (Gm.same G H=false):=aA (by rw[HE3.out,zaY hlt hlt2 (fun e=>hx3 (by rw[←QX.out,←QY.out];exact congrArg Gm.Rl.r e))])
         rw[decide_eq_false hx3]at HS
         clear hx1 hx2 hx3
         go_wp2_with fail
         refine(HS.out _ (HBZ.out _ _).below).mono ?_;rintro _ w6 ⟨rfl,n6,rfl⟩
         go_wp2
         go_ret
         exact⟨aC HX.out.symm,(HBN.out _ _ _).below⟩
       ·intro KK hKK
        rw[if_pos (by rfl)]
        go_wp2_with fail
        refine hKK _ _ ⟨⟨_,HZ1.out _⟩,rfl⟩ (fun x=>∃y:Calm.On wr.heap.size wr,x=y.1) (fun _ h=>h) ⟨⟨_,HZ1.out _⟩,rfl⟩ ?_
        refine wpQuiet_nil ?_
        intro KK hKK
        rw[if_pos (by rfl)]
        go_wp2_with fail
        refine hKK _ _ ⟨⟨_,HZ2.out _ _⟩,rfl⟩ (fun x=>∃y:Calm.On wr.heap.size wr,x=y.1) (fun _ h=>h) ⟨⟨_,HZ2.out _ _⟩,rfl⟩ ?_
        refine wpQuiet_nil ?_
        intro KK hKK
        rw[if_pos (by rfl)]
        go_wp2_with fail
        refine hKK _ _ ⟨⟨_,HZ3.out _ _⟩,rfl⟩ (fun x=>∃y:Calm.On wr.heap.size wr,x=y.1) (fun _ h=>h) ⟨⟨_,HZ3.out _ _⟩,rfl⟩ ?_
        refine wpQuiet_nil ?_
        intro KK hKK
        rw[if_pos (by rfl)]
        go_wp2_with fail
        refine hKK _ _ ⟨⟨_,HZ3.out _ _⟩,rfl⟩ (fun x=>∃y:Calm.On wr.heap.size wr,x=y.1) (fun _ h=>h) ⟨⟨_,HZ3.out _ _⟩,rfl⟩ ?_
        refine wpQuiet_nil ?_
        have HBZ:=aA (fun o o':Obj=>(HB.out.on (HZ3.out o o')))
        have HBN:=aA (fun(o o':Obj) (n:Nat)=>(HB.out.on (aB (((Below.refl wr.heap.size wr).alloc (Nat.le_refl _) o).alloc (by simp) o') n)))
        clear hKK
        generalize qx:G.rs[k]=x at *
        generalize qy:H.rs[k]=y at *
        have QX:=aA qx
        have QY:=aA qy
        clear qx qy
        by_cases hx1:x.l=y.l
        case neg =>
         have HX:Hid (Gm.same G H=false):=aA (by rw[HE3.out,zaY hlt hlt2 (fun e=>hx1 (by rw[←QX.out,←QY.out];exact congrArg Gm.Rl.l e))])
         have e1:(x.l != y.l)=true:=by simpa using hx1
         clear hx1
         go_wp2_with fail
         go_ret
         exact⟨aC HX.out.symm,(HBZ.out _ _).below⟩
        have e1:(x.l != y.l)=false:=by simpa using hx1
        by_cases hx2:x.p=y.p
        case neg =>
         have HX:Hid (Gm.same G H=false):=aA (by rw[HE3.out,zaY hlt hlt2 (fun e=>hx2 (by rw[←QX.out,←QY.out];exact congrArg Gm.Rl.p e))])
         have e2:(x.p != y.p)=true:=by simpa using hx2
         clear hx1 hx2
         go_wp2_with fail
         go_ret
         exact⟨aC HX.out.symm,(HBZ.out _ _).below⟩
        have e2:(x.p != y.p)=false:=by simpa using hx2
        by_cases hx3:x.r=y.r
        ·have HX:Hid (aY G.rs H.rs (k+1)):=aA (HA3.out.next hlt hlt2 (QX.out.trans (Eq.trans (by cases x;cases y;simp_all) QY.out.symm)))
         rw[decide_eq_true hx3]at HS
         clear hx1 hx2 hx3
         go_wp2_with fail
         refine(HS.out _ (HBZ.out _ _).below).mono ?_;rintro _ w6 ⟨rfl,n6,rfl⟩
         go_wp2
         go_roundw
         case rel=>exact⟨k+1,hlt,by go_num,HX.out,HBN.out _ _ _⟩
         case measure=>simp[intOf];omega
        ·have HX:Hid (Gm.same G H=false):=aA (by rw[HE3.out,zaY hlt hlt2 (fun e=>hx3 (by rw[←QX.out,←QY.out];exact congrArg Gm.Rl.r e))])
         rw[decide_eq_false hx3]at HS
         clear hx1 hx2 hx3
         go_wp2_with fail
         refine(HS.out _ (HBZ.out _ _).below).mono ?_;rintro _ w6 ⟨rfl,n6,rfl⟩
         go_wp2
         go_ret
         exact⟨aC HX.out.symm,(HBN.out _ _ _).below⟩
      ·obtain rfl:k=G.rs.length:=by omega
       have HX:Hid (Gm.same G H=true):=aA (by rw[HE3.out,HA3.out.all rfl L3.out])
       go_wp2
       go_ret
       exact⟨aC HX.out.symm,HB.out.below⟩
def Gm.gr0:Gm.Gr:=⟨[],[],[],0⟩
theorem zhV (w:World) (B:Nat):aT w B (.agg #[.slice none 0 0,.slice none 0 0,.slice none 0 0,.int .i64 0]) Gm.gr0:=⟨none,0,none,0,none,0,rfl,by simp[Gm.gr0],by simp[Gm.gr0],by simp[Gm.gr0],fun h=>absurd rfl h,fun h=>absurd rfl h,fun h=>absurd rfl h⟩
theorem zcM (w:World):(Instr.build 26 #[]).run Tryz.prog w=.ok (.agg #[.slice none 0 0,.slice none 0 0,.slice none 0 0,.int .i64 0]) w:=run_build w 26 _ _ (by kernel_rfl)
noncomputable def Gm.rdE (G:Gm.Gr):Int:=if Gm.right G=true then(if Gm.tr (Gm.Gn true G.rs G.st)=true then 0 else 9) else 1
noncomputable def Gm.rdG (G:Gm.Gr):Gm.Gr:=if Gm.rdE G=0 then Gm.reduce G else Gm.gr0
noncomputable def Gm.rdL (G:Gm.Gr):List Int:=if Gm.rdE G=0 then Gm.kl G G.rs.length else []
theorem Gm.rdE_no {G:Gm.Gr} (h:Gm.right G=false):Gm.rdE G=1:=by unfold Gm.rdE;rw[h];rfl
theorem Gm.rdE_empty {G:Gm.Gr} (h:Gm.right G=true) (k:Gm.tr (Gm.Gn true G.rs G.st)=false):Gm.rdE G=9:=by unfold Gm.rdE;rw[h,k];rfl
theorem Gm.rdE_ok {G:Gm.Gr} (h:Gm.right G=true) (k:Gm.tr (Gm.Gn true G.rs G.st)=true):Gm.rdE G=0:=by unfold Gm.rdE;rw[h,k];rfl
def zaK (G:Gm.Gr) (w:World) (e:Ending) (w':World):Prop:=∃g A c,e=.returned (.tuple #[g,.slice A (Gm.rdL G).length c,.int .i64 (Gm.rdE G)])∧aT w' w'.heap.size g (Gm.rdG G)∧RdI w' w'.heap.size A (Gm.rdL G)∧Below w.heap.size w w'
theorem zaK.no {G:Gm.Gr} {w w':World} {er:Int} (h:Gm.rdE G=er) (h0:er≠0) (hb:Below w.heap.size w w'):zaK G w (.returned (.tuple #[.agg #[.slice none 0 0,.slice none 0 0,.slice none 0 0,.int .i64 0],.slice none 0 0,.int .i64 er])) w':=by
 have hL:Gm.rdL G=[]:=by unfold Gm.rdL;rw[if_neg (by rw[h];exact h0)]
 have hG:Gm.rdG G=Gm.gr0:=by unfold Gm.rdG;rw[if_neg (by rw[h];exact h0)]
 refine⟨_,none,0,by rw[hL,h];rfl,?_,?_,hb⟩
 ·rw[hG];exact zhV _ _
 ·rw[hL];exact RdI.nil _ _ _
theorem zaK.ok {G:Gm.Gr} {w w':World} {g:Value} {A:Option Addr} {c:Nat} {ks:List Int} (h:Gm.rdE G=0) (hk:ks=Gm.kl G G.rs.length) (hg:aT w' w'.heap.size g (Gm.reduce G)) (hr:RdI w' w'.heap.size A ks) (hb:Below w.heap.size w w'):zaK G w (.returned (.tuple #[g,.slice A ks.length c,.int .i64 0])) w':=by
 have hL:Gm.rdL G=ks:=by unfold Gm.rdL;rw[if_pos h,hk]
 have hG:Gm.rdG G=Gm.reduce G:=by unfold Gm.rdG;rw[if_pos h]
 exact⟨g,A,c,by rw[hL,h],by rw[hG];exact hg,by rw[hL];exact hr,hb⟩
theorem zdR (v:Value) (G:Gm.Gr) (B:Nat) (w:World) (hg:aT w B v G) (hf:Gm.Fit G) (hB:B≤w.heap.size) :
  Calls Tryz.prog 59 #[v] w (zaK G w):=by
 have H1:=aA (fun(x:World) (h:Below w.heap.size w x)=>zaz v G B x (hg.below h hB) hf (Nat.le_trans hB h.size))
 have H2:=aA (fun(x:World) (h:Below w.heap.size w x)=>zaL v G B x (hg.below h hB) hf (Nat.le_trans hB h.size))
 have H3:=aA (fun(q:Gm.right G=true) (x:World) (h:Below w.heap.size w x)=>zhl v G B x (hg.below h hB) hf (Gm.right_ok.1 q) (Nat.le_trans hB h.size))
 have H4:=aA (fun(q:Gm.right G=true) (hp:Gm.Gn true G.rs G.st) (x:World) (h:Below w.heap.size w x) (AK:Option Addr) (cK:Nat) (hk:RdI x x.heap.size AK (Gm.kl G G.rs.length))=>zdU v G B x.heap.size AK cK x (hg.below h hB) hf (Gm.right_ok.1 q) hp (Nat.le_trans hB h.size) hk (Nat.le_refl _))
 have hbg:=fun w=>zcM w
 obtain⟨AT,cT,AN,cN,AR,cR,rfl,_⟩:=hg
 obtain⟨w1,hw1⟩:∃y,y=(w.alloc (.cells #[.slice AT G.ts.length cT,.slice AN G.ns.length cN,.slice AR G.rs.length cR,.int .i64 G.st] 26)).alloc (.cells #[.slice none 0 0,.slice none 0 0,.slice none 0 0,.int .i64 0] 26):=⟨_,rfl⟩
 have hs1:w1.heap.size=w.heap.size+2:=by rw[hw1];simp
 have HB1:Hid (Below w.heap.size w w1):=aA (by rw[hw1];exact((Below.refl _ w).alloc (Nat.le_refl _) _).alloc (by simp) _)
 have HX0:Hid (w1.heap[w.heap.size]?=some (.cells #[.slice AT G.ts.length cT,.slice AN G.ns.length cN,.slice AR G.rs.length cR,.int .i64 G.st] 26 (0,0))):=aA (by rw[hw1,Below.heap_alloc _ _ _ (by simp)];exact heap_alloc_new w _)
 have HX1:Hid (w1.heap[w.heap.size+1]?=some (.cells #[.slice none 0 0,.slice none 0 0,.slice none 0 0,.int .i64 0] 26 (0,0))):=aA (by rw[hw1];have:=heap_alloc_new (w.alloc (.cells #[.slice AT G.ts.length cT,.slice AN G.ns.length cN,.slice AR G.rs.length cR,.int .i64 G.st] 26)) (.cells #[.slice none 0 0,.slice none 0 0,.slice none 0 0,.int .i64 0] 26);simpa using this)
 have HS1:=aA hs1
 have HQ:=aA (fun(y:World) (h:Below w1.heap.size w1 y)=>(h.block w.heap.size (by omega)).trans HX0.out)
 have HZ:=aA (fun(y:World) (h:Below w1.heap.size w1 y)=>(h.block (w.heap.size+1) (by omega)).trans HX1.out)
 have HBX:=aA (fun(y:World) (h:Below w1.heap.size w1 y)=>HB1.out.trans (h.mono (by omega)))
 have c0:w1.cell? ⟨w.heap.size,0,none⟩=some (.slice AT G.ts.length cT):=by rw[cell_of_row w1 _ 0 _ _ _ HX0.out];rfl
 have c1:w1.cell? ⟨w.heap.size,1,none⟩=some (.slice AN G.ns.length cN):=by rw[cell_of_row w1 _ 1 _ _ _ HX0.out];rfl
 have c2:w1.cell? ⟨w.heap.size,2,none⟩=some (.slice AR G.rs.length cR):=by rw[cell_of_row w1 _ 2 _ _ _ HX0.out];rfl
 have c3:w1.cell? ⟨w.heap.size,3,none⟩=some (.int .i64 G.st):=by rw[cell_of_row w1 _ 3 _ _ _ HX0.out];rfl
 have hd0:w.heap.size<w1.heap.size:=by omega
 clear hf hs1
 cases q:Gm.right G
 ·rw[q]at H1
  have HE:=aA (Gm.rdE_no q)
  clear q H2 H3 H4
  go_enter Tryz.func59,Tryz.ntmps59
  go_upto_region 1 with fail
  rw[←hw1]
  clear hw1
  go_wp2_with fail
  refine(H1.out _ HB1.out).mono ?_;rintro _ w2 ⟨rfl,hb2⟩
  have g0:w2.cell? ⟨w.heap.size+1,0,none⟩=some (.slice none 0 0):=by rw[cell_of_row w2 _ 0 _ _ _ (HZ.out w2 hb2)];rfl
  have g1:w2.cell? ⟨w.heap.size+1,1,none⟩=some (.slice none 0 0):=by rw[cell_of_row w2 _ 1 _ _ _ (HZ.out w2 hb2)];rfl
  have g2:w2.cell? ⟨w.heap.size+1,2,none⟩=some (.slice none 0 0):=by rw[cell_of_row w2 _ 2 _ _ _ (HZ.out w2 hb2)];rfl
  have g3:w2.cell? ⟨w.heap.size+1,3,none⟩=some (.int .i64 0):=by rw[cell_of_row w2 _ 3 _ _ _ (HZ.out w2 hb2)];rfl
  have e0:=frozen_of_row w2 _ 0 _ _ (HZ.out w2 hb2)
  have e1:=frozen_of_row w2 _ 1 _ _ (HZ.out w2 hb2)
  have e2:=frozen_of_row w2 _ 2 _ _ (HZ.out w2 hb2)
  have e3:=frozen_of_row w2 _ 3 _ _ (HZ.out w2 hb2)
  have lz:=(Array.getElem?_eq_some_iff.1 (HZ.out w2 hb2)).1
  have HBF:=aA (fun u1 u2 u3 u4=>((((HBX.out w2 hb2).setCell (p:=⟨w.heap.size+1,0,none⟩) (by simp only;omega) u1).setCell (p:=⟨w.heap.size+1,1,none⟩) (by simp only;omega) u2).setCell (p:=⟨w.heap.size+1,2,none⟩) (by simp only;omega) u3).setCell (p:=⟨w.heap.size+1,3,none⟩) (by simp only;omega) u4)
  clear c0 c1 c2 c3 hb2 H1
  go_wp2
  refine bodyPost_ret (v:=.tuple #[.agg #[.slice none 0 0,.slice none 0 0,.slice none 0 0,.int .i64 0],.slice none 0 0,.int .i64 1]) (by simp[results,Tryz.results59,go_sem,g0,g1,g2,g3]) rfl ?_
  exact zaK.no HE.out (by decide) (HBF.out _ _ _ _)
 ·have HQ1:=aA q
  have HOK:=aA (Gm.right_ok.1 q)
  have H2:=aA (fun x h=>(show Calls _ _ _ _ (zhE _ _) from(H2.out x h).mono fun e w' k=>k.1 q))
  have H3:=aA (H3.out q)
  have H4:=aA (H4.out q)
  rw[q]at H1
  clear q
  obtain⟨T,hT⟩:∃x,x=Gm.gn true G.rs G.ns.length:=⟨_,rfl⟩
  have HTl:Hid (T.length=G.ns.length):=aA (by rw[hT,Gm.gn_len])
  rw[←hT]at H2
  have hst:=HOK.out.s0
  have hst1:=HOK.out.s1
  obtain⟨m,hm⟩:∃m:Nat,G.st=(m:Int):=⟨G.st.toNat,by omega⟩
  obtain⟨tb,htb⟩:∃b,b=T.getD m false:=⟨_,rfl⟩
  have HTM:Hid (tb=Gm.tr (Gm.Gn true G.rs G.st)):=aA (by rw[htb,hT,Gm.gn_at _ _ _ _ (by omega),hm])
  have HTB:=aA htb
  have HM:=aA hm
  have hmn:m<G.ns.length:=by omega
  have hmi:(m:Int)<(G.ns.length:Int):=by omega
  clear hT hst hst1 hm htb
  go_enter Tryz.func59,Tryz.ntmps59
  go_upto_region 1 with fail
  rw[←hw1]
  clear hw1
  go_upto_region 3 with fail
  refine(H1.out _ HB1.out).mono ?_;rintro _ w2 ⟨rfl,hb2⟩
  have HB2:=aA hb2
  clear hb2 c0 c1 c2 c3 H1
  go_upto_region 3 with fail
  go_cut [16] (fun v16 wx=>v16=.bool (!tb)∧Below w1.heap.size w1 wx)
  case first =>
   have q0:=fun y:Calm.On w2.heap.size w2=>(show y.1.cell? ⟨w.heap.size,0,none⟩=some (.slice AT G.ts.length cT) by rw[cell_of_row y.1 _ 0 _ _ _ (HQ.out y.1 (HB2.out.trans (y.2.mono HB2.out.size)))];rfl)
   have q1:=fun y:Calm.On w2.heap.size w2=>(show y.1.cell? ⟨w.heap.size,1,none⟩=some (.slice AN G.ns.length cN) by rw[cell_of_row y.1 _ 1 _ _ _ (HQ.out y.1 (HB2.out.trans (y.2.mono HB2.out.size)))];rfl)
   have q2:=fun y:Calm.On w2.heap.size w2=>(show y.1.cell? ⟨w.heap.size,2,none⟩=some (.slice AR G.rs.length cR) by rw[cell_of_row y.1 _ 2 _ _ _ (HQ.out y.1 (HB2.out.trans (y.2.mono HB2.out.size)))];rfl)
   have q3:=fun y:Calm.On w2.heap.size w2=>(show y.1.cell? ⟨w.heap.size,3,none⟩=some (.int .i64 m) by rw[cell_of_row y.1 _ 3 _ _ _ (HQ.out y.1 (HB2.out.trans (y.2.mono HB2.out.size))),←HM.out];rfl)
   rw[HM.out]at H2
   have HD2:Hid (Below w2.heap.size w2 w2.drew):=aA (aB (Below.refl _ _) 1)
   refine CalmN.region_tree (fun x=>∃y:Calm.On w2.heap.size w2,x=y.1) (.one [0,2,3] 1 (.fin [4,5,6])) (by kernel_rfl) (by kernel_rfl) (fun _ _ d _ _ h=>by cases d <;> exact h) ⟨⟨w2.drew,HD2.out⟩,rfl⟩ ?_
   simp only[CalmN.wpT,CalmN.wpSt,CalmN.pickOps,List.getElem?_toArray,List.getElem?_cons_zero,List.getElem?_cons_succ]
   repeat (go_big_quiet_step (fail))
   refine wpQuiet_nil ?_
   clear q0 q1 q2 q3
   obtain⟨wd,hwd⟩:∃y,y=w2.drew:=⟨_,rfl⟩
   rw[←hwd]at HD2 ⊢
   clear hwd
   intro KK hKK
   rw[if_pos (by rfl)]
   go_wp2_with fail
   refine(H2.out wd (HBX.out _ (HB2.out.trans (HD2.out.mono HB2.out.size)))).mono ?_;rintro _ w3 ⟨ga,rfl,hga,hua,hb3⟩
   rw[HTl.out]
   have hb3':Below w2.heap.size w2 w3:=HD2.out.trans (hb3.mono HD2.out.size)
   have HFI:=aA (HB2.out.trans (hb3'.mono HB2.out.size))
   go_wp2_with fail
   refine hKK _ _ ⟨⟨w3,hb3'⟩,rfl⟩ (fun x=>∃y:Calm.On w3.heap.size w3,x=y.1) (fun x h=>by obtain⟨y,rfl⟩:=h;exact⟨⟨y.1,hb3'.trans (y.2.mono hb3'.size)⟩,rfl⟩) ⟨⟨w3,Below.refl _ _⟩,rfl⟩ ?_
   have bk:=fun y:Calm.On w3.heap.size w3=>(y.2.cell (p:=⟨ga,m,none⟩) hua.lt).trans (hua.cell m (by rw[HTl.out];exact hmn))
   rw[←HTB.out]at bk
   clear hb3 hga hua hb3' hKK
   repeat (go_big_quiet_step (fail))
   refine wpQuiet_nil ?_
   go_wp2_with fail
   go_meet
   case rel=>exact⟨rfl,HFI.out⟩
  case rest =>
   obtain⟨rfl,hbc⟩:=hcut
   rw[HTM.out]
   cases hp:Gm.tr (Gm.Gn true G.rs G.st)
   ·have HE:=aA (Gm.rdE_empty HQ1.out hp)
    have g0:wc.cell? ⟨w.heap.size+1,0,none⟩=some (.slice none 0 0):=by rw[cell_of_row wc _ 0 _ _ _ (HZ.out wc hbc)];rfl
    have g1:wc.cell? ⟨w.heap.size+1,1,none⟩=some (.slice none 0 0):=by rw[cell_of_row wc _ 1 _ _ _ (HZ.out wc hbc)];rfl
    have g2:wc.cell? ⟨w.heap.size+1,2,none⟩=some (.slice none 0 0):=by rw[cell_of_row wc _ 2 _ _ _ (HZ.out wc hbc)];rfl
    have g3:wc.cell? ⟨w.heap.size+1,3,none⟩=some (.int .i64 0):=by rw[cell_of_row wc _ 3 _ _ _ (HZ.out wc hbc)];rfl
    have e0:=frozen_of_row wc _ 0 _ _ (HZ.out wc hbc)
    have e1:=frozen_of_row wc _ 1 _ _ (HZ.out wc hbc)
    have e2:=frozen_of_row wc _ 2 _ _ (HZ.out wc hbc)
    have e3:=frozen_of_row wc _ 3 _ _ (HZ.out wc hbc)
    have lz:=(Array.getElem?_eq_some_iff.1 (HZ.out wc hbc)).1
    have HBF:=aA (fun u1 u2 u3 u4=>((((HBX.out wc hbc).setCell (p:=⟨w.heap.size+1,0,none⟩) (by simp only;omega) u1).setCell (p:=⟨w.heap.size+1,1,none⟩) (by simp only;omega) u2).setCell (p:=⟨w.heap.size+1,2,none⟩) (by simp only;omega) u3).setCell (p:=⟨w.heap.size+1,3,none⟩) (by simp only;omega) u4)
    clear hp HTM H2 H3 H4 hbc
    go_wp2
    refine bodyPost_ret (v:=.tuple #[.agg #[.slice none 0 0,.slice none 0 0,.slice none 0 0,.int .i64 0],.slice none 0 0,.int .i64 9]) (by simp[results,Tryz.results59,go_sem,g0,g1,g2,g3]) rfl ?_
    exact zaK.no HE.out (by decide) (HBF.out _ _ _ _)
   ·have HE:=aA (Gm.rdE_ok HQ1.out hp)
    have H4:=aA (H4.out (Gm.tr_iff.1 hp))
    have HBC:=aA hbc
    have c0:wc.cell? ⟨w.heap.size,0,none⟩=some (.slice AT G.ts.length cT):=by rw[cell_of_row wc _ 0 _ _ _ (HQ.out wc hbc)];rfl
    have c1:wc.cell? ⟨w.heap.size,1,none⟩=some (.slice AN G.ns.length cN):=by rw[cell_of_row wc _ 1 _ _ _ (HQ.out wc hbc)];rfl
    have c2:wc.cell? ⟨w.heap.size,2,none⟩=some (.slice AR G.rs.length cR):=by rw[cell_of_row wc _ 2 _ _ _ (HQ.out wc hbc)];rfl
    have c3:wc.cell? ⟨w.heap.size,3,none⟩=some (.int .i64 G.st):=by rw[cell_of_row wc _ 3 _ _ _ (HQ.out wc hbc)];rfl
    have lc0:=block_lt_of_cell c0
    obtain⟨ks,hks⟩:∃ks,ks=Gm.kl G G.rs.length:=⟨_,rfl⟩
    rw[←hks]at H3 H4
    have HKS:=aA hks
    clear hp HTM H2 hbc hks
    go_wp2_with fail
    refine(H3.out _ (HBX.out _ HBC.out)).mono ?_;rintro _ w4 ⟨u,rfl,ho4,hb4⟩
    have HB4:=aA (HBC.out.trans (hb4.mono HBC.out.size))
    obtain⟨A4,c4,rfl,_,_,hr4⟩:=ho4.form
    have HR4:=aA hr4
    have HO4:=aA ho4
    have HL4:=aA (Nat.le_trans HBC.out.size (Nat.le_refl wc.heap.size))
    clear c0 c1 c2 c3 lc0 hb4 hr4 ho4
    have c0:w4.cell? ⟨w.heap.size,0,none⟩=some (.slice AT G.ts.length cT):=by rw[cell_of_row w4 _ 0 _ _ _ (HQ.out w4 HB4.out)];rfl
    have c1:w4.cell? ⟨w.heap.size,1,none⟩=some (.slice AN G.ns.length cN):=by rw[cell_of_row w4 _ 1 _ _ _ (HQ.out w4 HB4.out)];rfl
    have c2:w4.cell? ⟨w.heap.size,2,none⟩=some (.slice AR G.rs.length cR):=by rw[cell_of_row w4 _ 2 _ _ _ (HQ.out w4 HB4.out)];rfl
    have c3:w4.cell? ⟨w.heap.size,3,none⟩=some (.int .i64 G.st):=by rw[cell_of_row w4 _ 3 _ _ _ (HQ.out w4 HB4.out)];rfl
    have lc0:=block_lt_of_cell c0
    go_wp2_with fail
    refine(H4.out w4 (HBX.out _ HB4.out) A4 c4 HR4.out).mono ?_;rintro _ w5 ⟨g,rfl,hg5,hb5⟩
    have HB5:=aA (HB4.out.trans (hb5.mono HB4.out.size))
    have HO5:=aA (HO4.out.below hb5 (Nat.le_refl _))
    have HG5:=aA hg5
    obtain⟨u0,u1,u2,rfl,ht5,hn5,hr5⟩:=hg5
    obtain⟨A0,d0,rfl,_,_⟩:=aM ht5
    obtain⟨A1,d1,rfl,_,_⟩:=aM hn5
    obtain⟨A2,d2,rfl,_,_⟩:=zab hr5
    have HL5:=aA (HB4.out.size)
    clear ht5 hn5 hr5
    clear c0 c1 c2 c3 lc0 hb5 HR4 HO4
    have g0:w5.cell? ⟨w.heap.size+1,0,none⟩=some (.slice none 0 0):=by rw[cell_of_row w5 _ 0 _ _ _ (HZ.out w5 HB5.out)];rfl
    have g1:w5.cell? ⟨w.heap.size+1,1,none⟩=some (.slice none 0 0):=by rw[cell_of_row w5 _ 1 _ _ _ (HZ.out w5 HB5.out)];rfl
    have g2:w5.cell? ⟨w.heap.size+1,2,none⟩=some (.slice none 0 0):=by rw[cell_of_row w5 _ 2 _ _ _ (HZ.out w5 HB5.out)];rfl
    have g3:w5.cell? ⟨w.heap.size+1,3,none⟩=some (.int .i64 0):=by rw[cell_of_row w5 _ 3 _ _ _ (HZ.out w5 HB5.out)];rfl
    have e0:=frozen_of_row w5 _ 0 _ _ (HZ.out w5 HB5.out)
    have e1:=frozen_of_row w5 _ 1 _ _ (HZ.out w5 HB5.out)
    have e2:=frozen_of_row w5 _ 2 _ _ (HZ.out w5 HB5.out)
    have e3:=frozen_of_row w5 _ 3 _ _ (HZ.out w5 HB5.out)
    have lz:=(Array.getElem?_eq_some_iff.1 (HZ.out w5 HB5.out)).1
    have HBF:=aA (fun u1 u2 u3 u4=>((((HBX.out w5 HB5.out).setCell (p:=⟨w.heap.size+1,0,none⟩) (by simp only;omega) u1).setCell (p:=⟨w.heap.size+1,1,none⟩) (by simp only;omega) u2).setCell (p:=⟨w.heap.size+1,2,none⟩) (by simp only;omega) u3).setCell (p:=⟨w.heap.size+1,3,none⟩) (by simp only;omega) u4)
    have hgf:=aD (aD (aD (aD (World.grownBy.refl w5 (some (w.heap.size+1))) 0 (.slice A0 (Gm.reduce G).ts.length d0)) 1 (.slice A1 (Gm.reduce G).ns.length d1)) 2 (.slice A2 (Gm.reduce G).rs.length d2)) 3 (.int .i64 (Gm.reduce G).st)
    have HGR:=aA (HG5.out.grown hgf (fun g e=>by injection e with e;have:=HS1.out;have:=HL5.out;omega))
    have HRF:=aA (HO5.out.far hgf (by have:=HS1.out;have:=HL4.out;omega))
    generalize hRG:Gm.reduce G=RG at *
    have HRG:=aA hRG
    clear hgf HG5 HO5 hRG
    go_wp2
    refine bodyPost_ret (v:=.tuple #[.agg #[.slice A0 RG.ts.length d0,.slice A1 RG.ns.length d1,.slice A2 RG.rs.length d2,.int .i64 RG.st],.slice A4 ks.length c4,.int .i64 0]) (by simp[results,Tryz.results59,go_sem,g0,g1,g2,g3]) rfl ?_
    exact zaK.ok HE.out HKS.out (by rw[HRG.out];exact HGR.out.rd) HRF.out.rdOf (HBF.out _ _ _ _)
theorem Gm.rdG_fit {G:Gm.Gr} (hf:Gm.Fit G):Gm.Fit (Gm.rdG G):=by
 unfold Gm.rdG
 split
 case isFalse=>exact⟨by simp[Gm.gr0],by simp[Gm.gr0],by simp[Gm.gr0],by unfold Gm.In;simp[Gm.gr0]⟩
 case isTrue h =>
  have hr:Gm.right G=true:=by
   cases q:Gm.right G
   ·rw[Gm.rdE_no q]at h;cases h
   ·rfl
  have hp:Gm.Gn true G.rs G.st:=by
   cases q:Gm.tr (Gm.Gn true G.rs G.st)
   ·rw[Gm.rdE_empty hr q]at h;cases h
   ·exact Gm.tr_iff.1 q
  have hok:=Gm.right_ok.1 hr
  have hle:=Gm.olds_le hok
  have h40:=(Gm.nons_iff G).1 hok.n
  have hps:∀ {l:Int},l∈Gm.olds G→Gm.In (Gm.pos (Gm.olds G) l):=fun hl=>by have:=Gm.pos_lt hl;unfold Gm.In;omega
  refine⟨hf.t,fun s hs=>?_,fun y hy=>?_,hps (Gm.st_in hp)⟩
  ·obtain⟨l,hl,rfl⟩:=List.mem_map.1 hs
   have:=Gm.olds_lt hok hl
   rw[List.getD_eq_getElem?_getD,List.getElem?_eq_getElem (by omega),Option.getD_some]
   exact hf.n _ (List.getElem_mem _)
  ·obtain⟨x,hx,rfl⟩:=List.mem_map.1 hy
   have hfx:=hf.r x (Gm.mem_krs.1 hx).1
   refine⟨hps (Gm.use_left hx),hfx.2.1,fun z hz=>?_⟩
   obtain⟨u,hu,rfl⟩:=List.mem_map.1 hz
   unfold Gm.re1
   by_cases h0:u<0
   ·rw[if_pos h0]
    have:=Gm.pos_lt (Gm.use_sym hx hu h0)
    unfold Gm.In;omega
   ·rw[if_neg h0];exact hfx.2.2 u hu
noncomputable def Gm.isB (G:Gm.Gr):Bool:=decide (Gm.rdE G=0)&&Gm.same G (Gm.rdG G)
theorem Gm.rdE_in (G:Gm.Gr):Gm.rdE G=0∨Gm.rdE G=1∨Gm.rdE G=9:=by
 unfold Gm.rdE
 split
 ·split
  ·exact .inl rfl
  ·exact .inr (.inr rfl)
 ·exact .inr (.inl rfl)
theorem zh8 (v:Value) (G:Gm.Gr) (B:Nat) (w:World) (hg:aT w B v G) (hf:Gm.Fit G) (hB:B≤w.heap.size) :
  Calls Tryz.prog 33 #[v] w fun e w'=>e=.returned (.bool (Gm.isB G))∧Below w.heap.size w w':=by
 have H1:=aA (fun(x:World) (h:Below w.heap.size w x)=>zdR v G B x (hg.below h hB) hf (Nat.le_trans hB h.size))
 have H2:=aA (fun(x:World) (h:Below w.heap.size w x) (u:Value) (B':Nat) (hu:aT x B' u (Gm.rdG G)) (hB':B'≤x.heap.size)=>zgm v u G (Gm.rdG G) B B' x (hg.below h hB) hu hf (Gm.rdG_fit hf) (Nat.le_trans hB h.size) hB')
 have hin:=Gm.rdE_in G
 have HI:Hid (Gm.isB G=(decide (Gm.rdE G=0)&&Gm.same G (Gm.rdG G))):=aA rfl
 obtain⟨AT,cT,AN,cN,AR,cR,rfl,_⟩:=hg
 have HS0:=aA (One.start w #[.slice AT G.ts.length cT,.slice AN G.ns.length cN,.slice AR G.rs.length cR,.int .i64 G.st])
 unfold zaK at H1
 generalize Gm.rdL G=L at *
 generalize Gm.rdE G=er at *
 generalize Gm.rdG G=RG at *
 clear hf
 by_cases he:er=0
 ·have HX:Hid (Gm.isB G=Gm.same G RG):=aA (by rw[HI.out,decide_eq_true he];rfl)
  subst he
  clear hin HI
  go_enter Tryz.func33,Tryz.ntmps33
  go_wp2_with fail
  refine(H1.out _ HS0.out.below).mono ?_;rintro _ w2 ⟨g,A,c,rfl,hg2,hr2,hb2⟩
  have HB2:=aA (HS0.out.on hb2)
  have HG2:=aA hg2
  obtain⟨A0,d0,A1,d1,A2,d2,rfl,_⟩:=hg2
  have HT0:=aA (One.start w2 #[.slice A0 RG.ts.length d0,.slice A1 RG.ns.length d1,.slice A2 RG.rs.length d2,.int .i64 RG.st])
  have HB3:=aA (HB2.out.on HT0.out.below)
  have x0:=HB3.out.c 0 _ rfl
  have x1:=HB3.out.c 1 _ rfl
  have x2:=HB3.out.c 2 _ rfl
  have x3:=HB3.out.c 3 _ rfl
  have hz2:w.heap.size<w2.heap.size:=HB2.out.size
  clear hr2 hb2
  go_wp2_with fail
  refine(H2.out _ HB3.out.below _ w2.heap.size (HG2.out.below HT0.out.below (Nat.le_refl _)) HT0.out.below.size).mono ?_;rintro _ w4 ⟨rfl,hb4⟩
  have HB4:=aA (HB3.out.on hb4)
  clear hb4 x0 x1 x2 x3
  go_wp2
  go_ret
  exact⟨by rw[HX.out];rfl,HB4.out.below⟩
 ·have HX:Hid (Gm.isB G=false):=aA (by rw[HI.out,decide_eq_false he];rfl)
  have he2:(er==0)=false:=by simpa using he
  clear HI H2
  go_enter Tryz.func33,Tryz.ntmps33
  go_wp2_with fail
  refine(H1.out _ HS0.out.below).mono ?_;rintro _ w2 ⟨g,A,c,rfl,hg2,hr2,hb2⟩
  have HB2:=aA (HS0.out.on hb2)
  obtain⟨A0,d0,A1,d1,A2,d2,rfl,_⟩:=hg2
  clear hr2 hb2
  go_wp2
  go_ret
  exact⟨by rw[HX.out];rfl,(HB2.out.alloc _).below⟩
namespace Au
def rOk (G:Gm.Gr) (r:Int):Bool:=decide (-1≤r)&&decide (r<G.rs.length)
theorem rOk_iff {G:Gm.Gr} {r:Int}:rOk G r=true ↔ -1≤r∧r<G.rs.length:=by unfold rOk;simp
theorem isI_no {G:Gm.Gr} {x:It} (h:rOk G x.1=false):isI G x=false:=by
 unfold rOk at h
 unfold isI
 rw[h];rfl
theorem isI_ok {G:Gm.Gr} {x:It} (h:rOk G x.1=true):isI G x=(decide (0≤x.2)&&decide (x.2≤(sy G x.1).length)):=by
 unfold rOk at h
 unfold isI
 rw[h,Bool.true_and]
theorem sy_non {G:Gm.Gr} {k:Nat} (h:k<G.rs.length):sy G (k:Int)=(G.rs[k]).r:=by
 unfold sy
 rw[if_neg (by omega),List.getD_eq_getElem?_getD,show((k:Int)).toNat=k by omega,List.getElem?_eq_getElem h,Option.getD_some]
def nxP (G:Gm.Gr) (x:It):Option Int:=if isI G x=true then nx G x else none
theorem nxP_is {G:Gm.Gr} {x:It} (h:isI G x=true):nxP G x=nx G x:=by unfold nxP;rw[if_pos h]
theorem nx_at {G:Gm.Gr} {x:It} (h0:0≤x.2) (h1:x.2<(sy G x.1).length):nx G x=some ((sy G x.1).getD x.2.toNat 0):=by
 unfold nx
 rw[List.getD_eq_getElem?_getD,List.getElem?_eq_getElem (by omega:x.2.toNat<(sy G x.1).length)];rfl
theorem nxP_no {G:Gm.Gr} {x:It} (h:rOk G x.1=false):nxP G x=none:=by unfold nxP;rw[isI_no h];rfl
theorem nxP_out {G:Gm.Gr} {x:It} (h:x.2<0∨(sy G x.1).length≤x.2):nxP G x=none:=by
 unfold nxP
 split
 ·rename_i hi
  have:=isI_iff.1 hi
  unfold nx
  exact List.getElem?_eq_none (by omega)
 ·rfl
theorem nxP_in {G:Gm.Gr} {x:It} (hr:rOk G x.1=true) (h0:0≤x.2) (h1:x.2<(sy G x.1).length):nxP G x=some ((sy G x.1).getD x.2.toNat 0):=by
 unfold nxP
 rw[if_pos (isI_iff.2 ⟨rOk_iff.1 hr,h0,by omega⟩),nx_at h0 h1]
end Au
theorem zdi (z:Int) (hz:-9223372036854775808≤z) (hz':z≤9223372036854775807) (w:World) :
  Calls Tryz.prog 55 #[.int .i64 z] w fun e w'=>e=.returned (.int .i64 (-1-z))∧w'=w:=by
 have hs:IntKind.i64.wrap (-1-z) = -1-z:=IntWalk.i64_in _ (by omega)
 clear hz hz'
 go_enter Tryz.func55,Tryz.ntmps55
 go_wp2
 go_ret
 exact⟨rfl,rfl⟩
theorem zcQ (z:Int) (w:World) :
  Calls Tryz.prog 53 #[.int .i64 z] w fun e w'=>e=.returned (.bool (decide (z<0)))∧w'=w:=by
 go_enter Tryz.func53,Tryz.ntmps53
 go_wp2
 go_ret
 exact⟨rfl,rfl⟩
def zbT (L:List Int) (w:World) (e:Ending) (w':World):Prop:=∃A c,e=.returned (.tuple #[.slice A L.length c,.bool true])∧L.length≤c∧c≤9223372036854775807∧RdI w' w'.heap.size A L∧Below w.heap.size w w'
theorem zcP (v:Value) (G:Gm.Gr) (B:Nat) (r:Int) (w:World) (hg:aT w B v G) (hf:Gm.Fit G) (hB:B≤w.heap.size) (hr:Au.rOk G r=true) :
  Calls Tryz.prog 48 #[v,.int .i64 r] w (zbT (Au.sy G r) w):=by
 have hr:=Au.rOk_iff.1 hr
 have hst:=hf.s
 unfold Gm.In at hst
 have HX:=aA (fun w=>zdi G.st hst.1 hst.2 w)
 obtain⟨AT,cT,AN,cN,AR,cR,rfl,⟨hlT,hmT⟩,⟨hlN,hmN⟩,⟨hlR,hmR⟩,_,_,hR⟩:=hg
 have HS0:=aA (aZ.start 26 w #[.slice AT G.ts.length cT,.slice AN G.ns.length cN,.slice AR G.rs.length cR,.int .i64 G.st])
 have x2:=HS0.out.c 2 _ rfl
 have x3:=HS0.out.c 3 _ rfl
 clear hf hst
 unfold zbT
 by_cases h1:r = -1
 ·subst h1
  have e:Au.sy G (-1)=[-1-G.st]:=rfl
  have HL:=aA (zis (w.alloc (.cells #[.slice AT G.ts.length cT,.slice AN G.ns.length cN,.slice AR G.rs.length cR,.int .i64 G.st] 26)) [-1-G.st])
  rw[e]
  clear hr hR e
  go_enter Tryz.func48,Tryz.ntmps48
  go_wp2_with fail
  refine(HX.out _).mono ?_;rintro _ _ ⟨rfl,rfl⟩
  go_wp2
  go_ret2
  exact⟨_,_,rfl,by simp,by simp,by simpa[zbF] using HL.out.1,HS0.out.below.trans (HL.out.2.mono (by simp))⟩
 ·obtain⟨k,rfl⟩:∃k:Nat,r=(k:Int):=⟨r.toNat,by omega⟩
  have hlt:k<G.rs.length:=by omega
  obtain⟨g,o,rfl,hgB,hc⟩:=hR (by omega)
  obtain⟨_,⟨A',c',k1,hlc,hmc,hri⟩,_⟩:=hc k hlt
  have k1:=(HS0.out.below.cell (p:=⟨g,o+k*3+1,none⟩) (Nat.lt_of_lt_of_le hgB hB)).trans k1
  have HRI:=aA ((hri.below HS0.out.below hB).more (B':=w.heap.size+1) (by omega))
  have h2:((k:Int) == -1)=false:=by rw[beq_eq_false_iff_ne];omega
  have h3:(k:Int)<(G.rs.length:Int):=by omega
  rw[Au.sy_non hlt]
  clear hc hri hR hr h1 HX
  generalize (G.rs[k]).r=L at *
  go_enter Tryz.func48,Tryz.ntmps48
  go_wp2
  go_ret2
  exact⟨_,_,rfl,hlc,hmc,by simpa using HRI.out,HS0.out.below⟩
theorem zdJ (v:Value) (G:Gm.Gr) (B:Nat) (r:Int) (w:World) (hg:aT w B v G) (hr:Au.rOk G r=false) :
  Calls Tryz.prog 48 #[v,.int .i64 r] w fun e w'=>e=.returned (.tuple #[.slice none 0 0,.bool false])∧Below w.heap.size w w':=by
 have hr:¬(-1≤r∧r<G.rs.length):=fun h=>by rw[Au.rOk_iff.2 h]at hr;cases hr
 obtain⟨AT,cT,AN,cN,AR,cR,rfl,_,_,⟨hlR,hmR⟩,_,_,_⟩:=hg
 have HS0:=aA (aZ.start 26 w #[.slice AT G.ts.length cT,.slice AN G.ns.length cN,.slice AR G.rs.length cR,.int .i64 G.st])
 have x2:=HS0.out.c 2 _ rfl
 have h1:(r == -1)=false:=by rw[beq_eq_false_iff_ne];omega
 by_cases h0:0≤r
 ·have h2:(G.rs.length:Int)≤r:=by omega
  clear hr
  go_enter Tryz.func48,Tryz.ntmps48
  go_wp2
  go_ret2
  exact⟨rfl,HS0.out.below⟩
 ·clear hr
  go_enter Tryz.func48,Tryz.ntmps48
  go_wp2
  go_ret2
  exact⟨rfl,HS0.out.below⟩
abbrev itV (x:Au.It):Value:=.agg #[.int .i64 x.1,.int .i64 x.2]
theorem zdL (v:Value) (G:Gm.Gr) (B:Nat) (x:Au.It) (w:World) (hg:aT w B v G) (hf:Gm.Fit G) (hB:B≤w.heap.size) :
  Calls Tryz.prog 28 #[v,itV x] w fun e w'=>e=.returned (.bool (Au.isI G x))∧Below w.heap.size w w':=by
 have HG:=aA hg
 obtain⟨AT,cT,AN,cN,AR,cR,rfl,_⟩:=hg
 have HS0:=aA (bH.start 26 33 w #[.slice AT G.ts.length cT,.slice AN G.ns.length cN,.slice AR G.rs.length cR,.int .i64 G.st] #[.int .i64 x.1,.int .i64 x.2])
 have g0:=HS0.out.c1 0 _ rfl
 have g1:=HS0.out.c1 1 _ rfl
 have g2:=HS0.out.c1 2 _ rfl
 have g3:=HS0.out.c1 3 _ rfl
 have i0:=HS0.out.c2 0 _ rfl
 have i1:=HS0.out.c2 1 _ rfl
 cases hr:Au.rOk G x.1
 ·have HR:=aA (fun y (h:Below w.heap.size w y)=>zdJ _ G B x.1 y (HG.out.below h hB) hr)
  rw[Au.isI_no hr]
  clear hr hf
  go_enter Tryz.func28,Tryz.ntmps28
  go_wp2_with fail
  refine(HR.out _ HS0.out.below).mono ?_;rintro _ w2 ⟨rfl,hb⟩
  have HB:=aA (HS0.out.on hb)
  clear hb g0 g1 g2 g3 i0 i1
  go_wp2
  go_ret
  exact⟨rfl,HB.out.below⟩
 ·have HR:=aA (fun y (h:Below w.heap.size w y)=>zcP _ G B x.1 y (HG.out.below h hB) hf (Nat.le_trans hB h.size) hr)
  unfold zbT at HR
  have HI:=aA (Au.isI_ok hr)
  clear hr hf
  generalize Au.sy G x.1=L at *
  go_enter Tryz.func28,Tryz.ntmps28
  go_wp2_with fail
  refine(HR.out _ HS0.out.below).mono ?_;rintro _ w2 ⟨A,c,rfl,hl,hm,hri,hb⟩
  have HB:=aA (HS0.out.on hb)
  have j1:=HB.out.c2 1 _ rfl
  clear hb hri g0 g1 g2 g3 i0 i1
  by_cases h0:0≤x.2
  ·by_cases h1:x.2≤(L.length:Int)
   ·have HE:=aA (show true=Au.isI G x by rw[HI.out,decide_eq_true h0,decide_eq_true h1];rfl)
    go_wp2
    go_ret
    exact⟨aC HE.out,HB.out.below⟩
   ·have HE:=aA (show false=Au.isI G x by rw[HI.out,decide_eq_true h0,decide_eq_false h1];rfl)
    have HF:=aA (decide_eq_false h1)
    go_wp2
    go_ret
    exact⟨aC (HF.out.trans HE.out),HB.out.below⟩
  ·have HE:=aA (show false=Au.isI G x by rw[HI.out,decide_eq_false h0];rfl)
   go_wp2
   go_ret
   exact⟨aC HE.out,HB.out.below⟩
theorem zbz (v:Value) (G:Gm.Gr) (B:Nat) (x:Au.It) (w:World) (hg:aT w B v G) (hf:Gm.Fit G) (hB:B≤w.heap.size) :
  Calls Tryz.prog 26 #[v,itV x] w fun e w'=>e=.returned (.tuple #[.int .i64 ((Au.nxP G x).getD 0),.bool (Au.nxP G x).isSome])∧Below w.heap.size w w':=by
 have HG:=aA hg
 obtain⟨AT,cT,AN,cN,AR,cR,rfl,_⟩:=hg
 have HS0:=aA (bH.start 26 33 w #[.slice AT G.ts.length cT,.slice AN G.ns.length cN,.slice AR G.rs.length cR,.int .i64 G.st] #[.int .i64 x.1,.int .i64 x.2])
 have g0:=HS0.out.c1 0 _ rfl
 have g1:=HS0.out.c1 1 _ rfl
 have g2:=HS0.out.c1 2 _ rfl
 have g3:=HS0.out.c1 3 _ rfl
 have i0:=HS0.out.c2 0 _ rfl
 have i1:=HS0.out.c2 1 _ rfl
 cases hr:Au.rOk G x.1
 ·have HR:=aA (fun y (h:Below w.heap.size w y)=>zdJ _ G B x.1 y (HG.out.below h hB) hr)
  rw[Au.nxP_no hr]
  clear hr hf
  go_enter Tryz.func26,Tryz.ntmps26
  go_wp2_with fail
  refine(HR.out _ HS0.out.below).mono ?_;rintro _ w2 ⟨rfl,hb⟩
  have HB:=aA (HS0.out.on hb)
  have j1:=HB.out.c2 1 _ rfl
  clear hb g0 g1 g2 g3 i0 i1
  by_cases h0:x.2<0
  ·go_wp2
   go_ret2
   exact⟨rfl,HB.out.below⟩
  ·have h1:(0:Int)≤x.2:=by omega
   go_wp2
   go_ret2
   exact⟨rfl,HB.out.below⟩
 ·have HR:=aA (fun y (h:Below w.heap.size w y)=>zcP _ G B x.1 y (HG.out.below h hB) hf (Nat.le_trans hB h.size) hr)
  unfold zbT at HR
  have HO:=aA (Au.nxP_out (G:=G) (x:=x))
  have HI:=aA (Au.nxP_in hr)
  clear hr hf
  generalize Au.nxP G x=q at *
  generalize Au.sy G x.1=L at *
  go_enter Tryz.func26,Tryz.ntmps26
  go_wp2_with fail
  refine(HR.out _ HS0.out.below).mono ?_;rintro _ w2 ⟨A,c,rfl,hl,hm,hri,hb⟩
  have HB:=aA (HS0.out.on hb)
  have j1:=HB.out.c2 1 _ rfl
  clear hb g0 g1 g2 g3 i0 i1
  by_cases h0:x.2<0
  ·obtain rfl:=HO.out (.inl h0)
   clear HO HI hri
   go_wp2
   go_ret2
   exact⟨rfl,HB.out.below⟩
  ·by_cases h1:(L.length:Int)≤x.2
   ·obtain rfl:=HO.out (.inr h1)
    clear HO HI hri
    go_wp2
    go_ret2
    exact⟨rfl,HB.out.below⟩
   ·have HQ:=HI.out (by omega) (by omega)
    obtain⟨g,o,rfl,hgB,hc⟩:=hri (by omega)
    obtain⟨k,hk⟩:∃k:Nat,x.2=(k:Int):=⟨x.2.toNat,by omega⟩
    rw[hk]at j1 h0 h1 HQ
    have hlt:k<L.length:=by omega
    have k0:=hc k hlt
    rw[show((k:Int)).toNat=k by omega]at HQ
    generalize L.getD k 0=z at *
    have HQ:=aA HQ
    clear HO HI hc hk h0 h1
    have h0:((k:Int)<0)=False:=eq_false (by omega)
    go_wp2
    go_ret2
    exact⟨by rw[HQ.out];rfl,HB.out.below⟩
end Go.Proofs.YtabmfpgpkbndeaaGreat
namespace Go.Proofs.YtabmfpgpkbndeaaGreat
set_option maxRecDepth 100000
set_option maxHeartbeats 40000000
open Go.RowKit Go.ChangeShapes Go.WideShapes Go.ChangeAt
section
variable {α:Type} {m:Nat} {f:α→List Value} {T:TypeId}
theorem zh1 {w:World} {o:Oper} {a:Act} {Q:Exit→Act→World→Prop} {K:Act→World→Prop}
  (s x:Operand) (t:TypeId) (ho:o.op=.call {callee:=.builtin .append,args:=#[s,x],argTypes:=#[t,t]}) (ht:Tryz.prog.underlying t=some (.slice T))
  (z:Value) (bytes:Nat) (hinfo:(Tryz.prog.info? T).map (fun i=>(i.zero,i.size,i.bytes))=some (some z,m,bytes)) (hzs:z.cells.size=m) (hm:0<m) (hby:bytes≤100) (hf:∀x,(f x).length=m) (h1:∀x,∀u∈f x,u.oneCell'=true)
  (base:Nat) (v:Value) (xs:List α) (hs:a.eval s=v) (hown:aI T m f w base v xs) (g c:Nat) (y:α) (hx:a.eval x=.slice (some ⟨g,0,none⟩) 1 c) (hz:∀j u,(f y)[j]?=some u→w.cell? ⟨g,j,none⟩=some u)
  (hlen:xs.length≤1000000) (hbase:base≤w.heap.size)
  (hK:∀v' w',aI T m f w' base v' (xs++[y])→w.grownBy w' v.ownBlock→K (a.put o.dst v') w') :
  o.wp Tryz.prog a w K Q:=by
 obtain⟨i,hi,hz0,hz1,hz2⟩:=info_parts hinfo
 refine wp_append_own w s x t ho base T i z m bytes ht hi hz0 hz1 hz2 hzs hm v xs.length (xs.flatMap f) hs hown ⟨g,0,none⟩ 1 c (f y) hx (by rw[hf,Nat.one_mul]) ?_ (h1 y) (by unfold maxLen;omega) (by have:=Nat.mul_le_mul (show xs.length+1≤1000001 by omega) hby;omega) hbase fun v' w' h2 h3 _=>hK v' w' ?_ h3
 ·intro j u hj
  rw[Go.WideShapes.add_plain,Nat.zero_add]
  exact hz j u hj
 ·unfold aI
  rw[List.length_append,List.flatMap_append,List.flatMap_singleton];exact h2
theorem zgF {w:World} {ops:Array Oper} {rest:List Oper} {o:Oper} {a:Act} {Q:Exit→Act→World→Prop}
  (hgd:o.guard=none) (s x:Operand) (t:TypeId) (ho:o.op=.call {callee:=.builtin .append,args:=#[s,x],argTypes:=#[t,t]}) (ht:Tryz.prog.underlying t=some (.slice T))
  (z:Value) (bytes:Nat) (hinfo:(Tryz.prog.info? T).map (fun i=>(i.zero,i.size,i.bytes))=some (some z,m,bytes)) (hzs:z.cells.size=m) (hm:0<m) (hby:bytes≤100) (hf:∀x,(f x).length=m) (h1:∀x,∀u∈f x,u.oneCell'=true)
  (base:Nat) (v:Value) (xs:List α) (hs:a.eval s=v) (hown:aI T m f w base v xs) (g c:Nat) (y:α) (hx:a.eval x=.slice (some ⟨g,0,none⟩) 1 c) (hz:∀j u,(f y)[j]?=some u→w.cell? ⟨g,j,none⟩=some u)
  (hlen:xs.length≤1000000) (hbase:base≤w.heap.size)
  (hK:∀v' w',aI T m f w' base v' (xs++[y])→w.grownBy w' v.ownBlock→(v'.ownBlock=v.ownBlock∨v'.ownBlock=some w.heap.size)→wpList Tryz.prog ops Q rest (a.put o.dst v') w') :
  wpList Tryz.prog ops Q (o::rest) a w:=by
 obtain⟨i,hi,hz0,hz1,hz2⟩:=info_parts hinfo
 refine wpList_append_own_at w hgd s x t ho base T i z m bytes ht hi hz0 hz1 hz2 hzs hm v xs.length (xs.flatMap f) hs hown ⟨g,0,none⟩ 1 c (f y) hx (by rw[hf,Nat.one_mul]) ?_ (h1 y) (by unfold maxLen;omega) (by have:=Nat.mul_le_mul (show xs.length+1≤1000001 by omega) hby;omega) hbase fun v' w' h2 h3 _ h5=>hK v' w' ?_ h3 h5
 ·intro j u hj
  rw[Go.WideShapes.add_plain,Nat.zero_add]
  exact hz j u hj
 ·unfold aI
  rw[List.length_append,List.flatMap_append,List.flatMap_singleton];exact h2
theorem zgC {w:World} {o:Oper} {a:Act} {Q:Exit→Act→World→Prop} {K:Act→World→Prop}
  (s x:Operand) (t:TypeId) (ho:o.op=.call {callee:=.builtin .append,args:=#[s,x],argTypes:=#[t,t]}) (ht:Tryz.prog.underlying t=some (.slice T))
  (z:Value) (bytes:Nat) (hinfo:(Tryz.prog.info? T).map (fun i=>(i.zero,i.size,i.bytes))=some (some z,m,bytes)) (hzs:z.cells.size=m) (hm:0<m) (hby:bytes≤100) (hf:∀x,(f x).length=m) (h1:∀x,∀u∈f x,u.oneCell'=true)
  (base:Nat) (v:Value) (xs:List α) (hs:a.eval s=v) (hown:aI T m f w base v xs) (B n c:Nat) (A:Option Addr) (ys:List α) (hx:a.eval x=.slice A n c) (hn:n=ys.length) (hr:RdQ m f w B A ys)
  (hlen:xs.length+ys.length≤1000000) (hbase:base≤w.heap.size)
  (hK:∀v' w',aI T m f w' base v' (xs++ys)→w.grownBy w' v.ownBlock→K (a.put o.dst v') w') :
  o.wp Tryz.prog a w K Q:=by
 obtain⟨i,hi,hz0,hz1,hz2⟩:=info_parts hinfo
 subst hn
 rcases A with _|ad
 ·have hz:ys=[]:=by
   rcases Nat.eq_zero_or_pos ys.length with h0|h0
   ·exact List.eq_nil_of_length_eq_zero h0
   ·obtain⟨g,o',h,_⟩:=hr (by omega);cases h
  subst hz
  have hrun:=zah (P:=Tryz.prog) w base t o.type T i m ht hi v xs.length _ hown c
  unfold Oper.wp
  simp[execOp,ho,resolve,invoke,builtin,hs,hx,hrun,Result.andThen]
  exact hK v w (by simpa using hown) (World.grownBy.refl _ _)
 ·refine wp_append_own w s x t ho base T i z m bytes ht hi hz0 hz1 hz2 hzs hm v xs.length (xs.flatMap f) hs hown ad ys.length c (ys.flatMap f) hx (zfa hf ys) ?_ ?_ (by unfold maxLen;omega) (by have:=Nat.mul_le_mul (show xs.length+ys.length≤1000000 by omega) hby;omega) hbase fun v' w' h2 h3 _=>hK v' w' ?_ h3
  ·intro j u hj
   have hjl:j<ys.length*m:=by rw[←zfa hf ys];exact(List.getElem?_eq_some_iff.1 hj).1
   have hd:j / m<ys.length:=by
    rcases Nat.lt_or_ge (j / m) ys.length with h|h
    ·exact h
    ·have:=Nat.mul_le_mul_right m h
     have:=Nat.div_mul_le_self j m
     omega
   obtain⟨g,o',h,_,hc⟩:=hr (fun e=>by rw[e]at hd;exact absurd hd (Nat.not_lt_zero _))
   replace h:=Option.some.inj h
   subst h
   have hj2:j=j / m*m+j % m:=by rw[Nat.mul_comm];exact(Nat.div_add_mod j m).symm
   have hj3:=hj
   rw[hj2,qat hf ys _ _ hd (Nat.mod_lt _ hm)]at hj3
   have:=hc _ hd _ _ hj3
   rw[Go.WideShapes.add_plain]
   rw[Nat.add_assoc,←hj2]at this
   exact this
  ·intro u hu
   obtain⟨y,_,hy⟩:=List.mem_flatMap.1 hu
   exact h1 y u hy
  ·unfold aI
   rw[List.length_append,List.flatMap_append];exact h2
theorem zeH {w:World} {o:Oper} {a:Act} {Q:Exit→Act→World→Prop} {K:Act→World→Prop}
  (s x:Operand) (t:TypeId) (ho:o.op=.call {callee:=.builtin .append,args:=#[s,x],argTypes:=#[t,t]}) (ht:Tryz.prog.underlying t=some (.slice T))
  (z:Value) (bytes:Nat) (hinfo:(Tryz.prog.info? T).map (fun i=>(i.zero,i.size,i.bytes))=some (some z,m,bytes)) (hzs:z.cells.size=m) (hm:0<m) (hby:bytes≤100) (hf:∀x,(f x).length=m) (h1:∀x,∀u∈f x,u.oneCell'=true)
  (base:Nat) (v:Value) (xs:List α) (hs:a.eval s=v) (hown:aI T m f w base v xs) (g c:Nat) (y:α) (hx:a.eval x=.slice (some ⟨g,0,none⟩) 1 c) (hz:∀j u,(f y)[j]?=some u→w.cell? ⟨g,j,none⟩=some u)
  (hlen:xs.length≤1000000) (hbase:base≤w.heap.size)
  (hK:∀v' w',aI T m f w' base v' (xs++[y])→w.grownBy w' v.ownBlock→(v'.ownBlock=v.ownBlock∨v'.ownBlock=some w.heap.size)→K (a.put o.dst v') w') :
  o.wp Tryz.prog a w K Q:=by
 obtain⟨i,hi,hz0,hz1,hz2⟩:=info_parts hinfo
 obtain⟨v',w',hr,h2,h3,_,h5⟩:=run_append_own_at (P:=Tryz.prog) w base t o.type T i z m bytes ht hi hz0 hz1 hz2 hzs hm v xs.length (xs.flatMap f) hown ⟨g,0,none⟩ 1 c (f y) (by rw[hf,Nat.one_mul]) (fun j u hj=>by rw[Go.WideShapes.add_plain,Nat.zero_add];exact hz j u hj) (h1 y) (by unfold maxLen;omega) (by have:=Nat.mul_le_mul (show xs.length+1≤1000001 by omega) hby;omega) hbase
 unfold Oper.wp execOp
 simp only[ho,resolve,invoke,builtin,Sem.run_bind,Sem.run_pure,Result.andThen_ok,List.map_toArray,List.map_cons,List.map_nil,hs,hx,hr]
 refine hK _ _ ?_ h3 h5
 unfold aI
 rw[List.length_append,List.flatMap_append,List.flatMap_singleton];exact h2
theorem zbu (w:World):aI T m f (w.alloc (.cells #[] T)) w.heap.size (.slice (some ⟨w.heap.size,0,none⟩) 0 0) [] :=
 ⟨by simp,.inr ⟨w.heap.size,0,#[],rfl,Nat.le_refl _,heap_alloc_new w _,Nat.le_refl _,by unfold maxLen;omega,by simp,by simp⟩⟩
end
end Go.Proofs.YtabmfpgpkbndeaaGreat
namespace Go.Proofs.YtabmfpgpkbndeaaGreat
set_option maxRecDepth 100000
set_option maxHeartbeats 40000000
open Go.RowKit
theorem ziv:(match Tryz.prog.underlying 33 with|some (.array _ _)|some (.struct _)=>true|_=>false)=true:=by rw[Tryz.underlying33]
theorem itK:Maps.Keyed Tryz.prog 33:=Maps.Keyed.of_law (deep_law (m:=2) (by omega) (by kernel_rfl) (by kernel_rfl) ziv)
theorem zje (x:Au.It) (h:Gm.In x.1∧Gm.In x.2):∃l,keyOf Tryz.prog 33 (itV x)=some l:=by
 have h1:(Lit.int .i64 x.1).wf=true:=WalkArith.wf_i64 (by unfold Gm.In at h;omega)
 have h2:(Lit.int .i64 x.2).wf=true:=WalkArith.wf_i64 (by unfold Gm.In at h;omega)
 have hk:Tryz.prog.keyType 33=true:=by kernel_rfl
 have hc:Tryz.prog.cellsOf 33=2:=by kernel_rfl
 have hci:Tryz.prog.cellsOf 3=1:=by kernel_rfl
 unfold keyOf
 rw[Tryz.underlying33]
 have hfm:(itV x).formed Tryz.prog 33=true:=by simp[Value.formed,Tryz.underlying33,hc]
 have hl:∃ls,Tryz.prog.keyLits (Tryz.prog.types.size+1) 33 (itV x).cells.toList=some ls:=by
  obtain⟨n,hn⟩:∃n,Tryz.prog.types.size=n+1:=⟨Tryz.prog.types.size-1,by have:0<Tryz.prog.types.size:=of_decide_eq_true (by kernel_rfl);omega⟩
  rw[hn]
  simp[Program.keyLits,Tryz.underlying33,Tryz.underlying3,hc,hci,Value.cells,h1,h2]
 obtain⟨ls,hls⟩:=hl
 simp only[hk,hfm,hls]
 exact⟨_,rfl⟩
def itE:Mw.Enc Tryz.prog 33 Au.It where
 enc x:=itV x
 ok x:=Gm.In x.1∧Gm.In x.2
 key x h:=zje x h
 inj x y _ _ h:=by
  injection h with h
  simp at h
  exact Prod.ext h.1 h.2
theorem zbd:(Tryz.prog.info? 33).map (fun i=>(i.zero,i.size,i.bytes))=some (some (.agg #[.int .i64 0,.int .i64 0]),2,16):=by kernel_rfl
theorem zaI (x:Int×Int):∀u∈prF x,u.oneCell'=true:=fun u hu=>by
 simp[prF]at hu
 rcases hu with rfl|rfl <;> rfl
theorem zhh {P:Program} {w:World} {o:Oper} {a:Act} {Q:Exit→Act→World→Prop} {K:Act→World→Prop}
  (m x v:Operand) (t:TypeId) (hop:o.op=Op.mapUpdate t m x v) {mv xv vv:Value} {R:World→Prop} (h:∃w',(Instr.mapUpdate t mv xv vv).run P w=.ok () w'∧R w') (hm:a.eval m=mv) (hx:a.eval x=xv) (hv:a.eval v=vv)
  (hK:∀w',R w'→K (a.put o.dst undef) w'):o.wp P a w K Q:=by
 obtain⟨w',hrun,hR⟩:=h
 unfold Oper.wp
 simp[execOp,hop,hm,hx,hv,hrun,Result.andThen]
 exact hK w' hR
theorem zav {w:World} {base:Nat} {e:TypeId} {size n:Nat} {v:Value} {xs:List Value} (h:w.ownsRow base e size v n xs) {g:Nat} {o:Obj} (hg:w.heap[g]?=some o) (ho:∀cur,o ≠ .cells cur e (0,0)):v.ownBlock=none∨v.ownBlock≠some g:=by
 rcases h.2 with⟨rfl,_⟩|⟨g',cap,cur,rfl,_,hg',_⟩
 ·exact .inl rfl
 ·refine .inr fun e1=>?_
  injection e1 with e1
  have e1:g'=g:=e1
  subst e1
  rw[hg]at hg'
  injection hg' with hg'
  exact ho _ hg'
theorem aQ {w w':World} {base:Nat} {e:TypeId} {size n:Nat} {v:Value} {xs:List Value} (h:w.ownsRow base e size v n xs) (hg:w.grownBy w' v.ownBlock) {g:Nat} {o:Obj} (hb:w.heap[g]?=some o) (ho:∀cur,o ≠ .cells cur e (0,0)):w'.heap[g]?=some o:=by
 refine(hg.block g (Array.getElem?_eq_some_iff.1 hb).1 fun e1=>?_).trans hb
 rcases zav h hb ho with q|q
 ·rw[q]at e1;cases e1
 ·exact q e1.symm
structure KeepI (w w':World):Prop where
 size:w.heap.size≤w'.heap.size
 keep:∀(g:Nat) (cs:Array Value) (T:TypeId) (fr:Nat×Nat),w.heap[g]?=some (.cells cs T fr)→T≠33→T≠27→w'.heap[g]?=some (.cells cs T fr)
section
variable {w w' w2:World}
theorem KeepI.refl (w:World):KeepI w w:=⟨Nat.le_refl _,fun _ _ _ _ h _ _=>h⟩
theorem KeepI.trans (h:KeepI w w') (k:KeepI w' w2):KeepI w w2:=⟨Nat.le_trans h.size k.size,fun g cs T fr h1 h2 h3=>k.keep g cs T fr (h.keep g cs T fr h1 h2 h3) h2 h3⟩
theorem KeepI.below (h:Below w.heap.size w w'):KeepI w w':=⟨h.size,fun g _ _ _ h1 _ _=>(h.block g (Array.getElem?_eq_some_iff.1 h1).1).trans h1⟩
theorem KeepI.own {base n:Nat} {v:Value} {xs:List Value} (h:w.ownsRow base 33 2 v n xs) (hg:w.grownBy w' v.ownBlock):KeepI w w':=⟨hg.size,fun g cs T fr h1 h2 _=>aQ h hg h1 fun cur e=>by injection e with _ e _;exact h2 e⟩
theorem KeepI.map {M:Nat} {es:Array MapEntry} {ck:Nat} (h:w.heap[M]?=some (.map es ck)) (hg:w.grownBy w' (some M)):KeepI w w':=⟨hg.size,fun g cs T fr h1 _ _=>(hg.block g (Array.getElem?_eq_some_iff.1 h1).1 (fun e=>by injection e with e;rw[e,h]at h1;cases h1)).trans h1⟩
theorem KeepI.set {pA i:Nat} {cs:Array Value} {fr:Nat×Nat} (h:w.heap[pA]?=some (.cells cs 27 fr)) (u:Value):KeepI w (w.setCell ⟨pA,i,none⟩ u):=⟨by simp,fun g cs' T fr' h1 _ h3=>(Below.heap_setCell w ⟨pA,i,none⟩ u g (fun e=>by
 have e:g=pA:=e
 rw[e,h]at h1
 injection h1 with h1
 injection h1 with _ h1 _
 exact h3 h1.symm)).trans h1⟩
end
structure AdSt (w:World) (base pA pT M:Nat) (xs:List Au.It):Prop where
 v:∃v,w.heap[pA]?=some (.cells #[v] 27 (0,0))∧aI 33 2 prF w base v xs
 t:w.heap[pT]?=some (.cells #[.map (some M)] 86 (0,0))
 l:∃l,Mw.MapIs itE w M l∧∀x,Mw.asc l x=if x∈xs then some (.bool true) else none
 hA:base≤pA
 hT:base≤pT
 hM:base≤M
section
variable {w w':World} {base pA pT M:Nat} {xs:List Au.It}
theorem AdSt.below (h:AdSt w base pA pT M xs) (hb:Below w.heap.size w w'):AdSt w' base pA pT M xs:=by
 obtain⟨⟨v,h1,h2⟩,h3,⟨l,h4,h5⟩,h6,h7,h8⟩:=h
 exact⟨⟨v,aE hb h1,h2.below hb (Nat.le_refl _)⟩,aE hb h3,⟨l,h4.block (hb.block _ h4.lt),h5⟩,h6,h7,h8⟩
theorem AdSt.base_le (h:AdSt w base pA pT M xs):base≤w.heap.size:=by
 have:=(Array.getElem?_eq_some_iff.1 h.t).1
 have:=h.hT
 omega
end
theorem aO {cs cur:Array Value} {T T':TypeId} (h:T≠T'):(Obj.cells cs T (0,0)) ≠ .cells cur T' (0,0):=fun e=>by
 injection e with _ e _
 exact h e
theorem zbk (x:Int×Int) (w:World) (g:Nat) (hb:w.heap[g]?=some (.cells #[.int .i64 x.1,.int .i64 x.2] 33 (0,0))):∀j u,(prF x)[j]?=some u→w.cell? ⟨g,j,none⟩=some u:=fun j u hu=>by
 refine(cell_of_row w g j _ _ _ hb).trans ?_
 match j,hu with
 | 0,hu=>exact hu
 | 1,hu=>exact hu
 | j+2,hu=>simp[prF]at hu
theorem AdSt.put {w w5 w6:World} {base pA pT M:Nat} {xs:List Au.It} {x:Au.It} {v v5:Value} {l:List (Au.It×Value)} (hn:x ∉ xs)
  (h1:w.heap[pA]?=some (.cells #[v] 27 (0,0))) (h2:aI 33 2 prF w base v xs) (h3:w.heap[pT]?=some (.cells #[.map (some M)] 86 (0,0)))
  (h5:∀x,Mw.asc l x=if x∈xs then some (.bool true) else none) (hA:base≤pA) (hT:base≤pT) (hM:base≤M)
  (ho:aI 33 2 prF w5 base v5 (xs++[x])) (hg:w.grownBy w5 v.ownBlock) (hm:Mw.MapIs itE w6 M (l++[(x,.bool true)])) (hg6:w5.grownBy w6 (some M)) (hM5:Mw.MapIs itE w5 M l) :
  AdSt (w6.setCell ⟨pA,0,none⟩ v5) base pA pT M (Au.addX xs x)∧(Below base w w6→Below base w (w6.setCell ⟨pA,0,none⟩ v5)):=by
 have hneA:M≠pA:=fun e=>by
  have:=aQ h2 hg h1 fun cur=>aO (by decide)
  rw[←e]at this
  exact hM5.not_cells this
 have hneT:M≠pT:=fun e=>by
  have:=aQ h2 hg h3 fun cur=>aO (by decide)
  rw[←e]at this
  exact hM5.not_cells this
 have hATn:pA≠pT:=fun e=>by
  rw[e,h3]at h1
  injection h1 with h1
  exact aO (by decide) h1
 have a5:=aQ h2 hg h1 fun cur=>aO (by decide)
 have t5:=aQ h2 hg h3 fun cur=>aO (by decide)
 have a6:w6.heap[pA]?=some (.cells #[v] 27 (0,0)):=(hg6.block pA (Array.getElem?_eq_some_iff.1 a5).1 (fun e=>by injection e with e;exact hneA e.symm)).trans a5
 have t6:w6.heap[pT]?=some (.cells #[.map (some M)] 86 (0,0)):=(hg6.block pT (Array.getElem?_eq_some_iff.1 t5).1 (fun e=>by injection e with e;exact hneT e.symm)).trans t5
 obtain⟨es,ck,hmb,_⟩:=hM5
 have o6:aI 33 2 prF w6 base v5 (xs++[x]):=World.ownsRow.kept ho hg6 (zav ho hmb fun cur e=>by cases e)
 have o7:aI 33 2 prF (w6.setCell ⟨pA,0,none⟩ v5) base v5 (xs++[x]):=World.ownsRow.kept o6 (aD (World.grownBy.refl _ _) 0 v5) (zav o6 a6 fun cur=>aO (by decide))
 have e:Au.addX xs x=xs++[x]:=by unfold Au.addX;rw[if_neg hn]
 rw[e]
 refine⟨⟨⟨v5,heap_setCell_same w6 pA 0 _ _ _ a6,o7⟩,(Below.heap_setCell w6 ⟨pA,0,none⟩ v5 pT (fun e=>hATn e.symm)).trans t6,⟨_,hm.block (Below.heap_setCell w6 ⟨pA,0,none⟩ v5 M hneA),fun y=>?_⟩,hA,hT,hM⟩,fun hb=>hb.setCell hA _⟩
 have hxn:Mw.asc l x=none:=by rw[h5,if_neg hn]
 rw[Mw.asc_snoc hxn,h5]
 by_cases e1:x=y
 ·subst e1;simp
 ·rw[if_neg e1]
  by_cases e2:y∈xs
  ·rw[if_pos e2,if_pos (List.mem_append_left _ e2)]
  ·rw[if_neg e2,if_neg]
   intro q
   rcases List.mem_append.1 q with q|q
   ·exact e2 q
   ·exact e1 (List.mem_singleton.1 q).symm
end Go.Proofs.YtabmfpgpkbndeaaGreat
namespace Go.Proofs.YtabmfpgpkbndeaaGreat
set_option maxRecDepth 100000
set_option maxHeartbeats 40000000
open Go.RowKit
theorem zeP (w:World) (base pA pT M:Nat) (xs:List Au.It) (x:Au.It) (h:AdSt w base pA pT M xs) (hx:Gm.In x.1∧Gm.In x.2) (hlen:xs.length≤100000) :
  Calls Tryz.prog 52 #[itV x,.pointer (some ⟨pT,0,none⟩),.pointer (some ⟨pA,0,none⟩)] w fun e w'=>e=.returned (.tuple #[])∧AdSt w' base pA pT M (Au.addX xs x)∧Below base w w'∧KeepI w w':=by
 obtain⟨wb,hwb⟩:∃y,y=w.alloc (.cells #[.int .i64 x.1,.int .i64 x.2] 33):=⟨_,rfl⟩
 have HBB:Hid (Below w.heap.size w wb):=aA (by rw[hwb];exact(Below.refl _ _).alloc (Nat.le_refl _) _)
 have hbx:wb.heap[w.heap.size]?=some (.cells #[.int .i64 x.1,.int .i64 x.2] 33 (0,0)):=by rw[hwb];exact heap_alloc_new w _
 have HBX:=aA hbx
 have hzs:w.heap.size<wb.heap.size:=(Array.getElem?_eq_some_iff.1 hbx).1
 have HH:=aA (h.below HBB.out)
 have HBL:=aA h.base_le
 have HIN:=aA hx
 obtain⟨⟨v,h1,h2⟩,h3,⟨l,h4,h5⟩,hA,hT,hM⟩:=h
 have HOL:=aA (fun k (e:v.ownBlock=some k)=>(World.ownsRow.lt h2 k e).2)
 have hMl:=h4.lt
 have h1:=aE HBB.out h1
 have h2:=h2.below HBB.out (Nat.le_refl _)
 have h3:=aE HBB.out h3
 have h4:=h4.block (HBB.out.block _ h4.lt)
 have HMX:=aA (show M≠w.heap.size by omega)
 have H1:=aA h1
 have H2:=aA h2
 have H3:=aA h3
 have H5:=aA h5
 have H4:=aA h4
 have cT:wb.cell? ⟨pT,0,none⟩=some (.map (some M)):=cell_of_row wb pT 0 _ _ _ h3
 have x0:wb.cell? ⟨w.heap.size,0,none⟩=some (.int .i64 x.1):=cell_of_row wb _ 0 _ _ _ hbx
 have x1:wb.cell? ⟨w.heap.size,1,none⟩=some (.int .i64 x.2):=cell_of_row wb _ 1 _ _ _ hbx
 have hE:=h5 x
 have hkey:itE.enc x=.agg #[.int .i64 x.1,.int .i64 x.2]:=rfl
 have lk:=Mw.run_look (E:=itE) h4 itK (t:=86) Tryz.underlying86 (z:=.bool false) (by kernel_rfl) (x:=x) hx false
 rw[hE,hkey]at lk
 by_cases hn:x∈xs
 ·rw[if_pos hn]at lk
  have e:Au.addX xs x=xs:=by unfold Au.addX;rw[if_pos hn]
  simp at lk
  clear h1 h2 h3 h4 h5 hE hx hbx hA hT hM hn hMl
  go_enter Tryz.func52,Tryz.ntmps52
  go_upto_region 1 with fail
  rw[←hwb]
  clear hwb
  go_wp2
  go_end0
  exact⟨rfl,by rw[e];exact HH.out,HBB.out.mono HBL.out,.below HBB.out⟩
 ·rw[if_neg hn]at lk
  simp at lk
  have HN:=aA hn
  obtain⟨A,c,rfl,hlc,hmc,_⟩:=aI.form h2 aG
  have HST:=aA (fun(y:World) (hy:Mw.MapIs itE y M l)=>Mw.run_put (x:=x) hy itK Tryz.underlying86 HIN.out (.bool true))
  have hasc:Mw.asc l x=none:=by rw[hE,if_neg hn]
  rw[Mw.putA_none hasc]at HST
  have cA:wb.cell? ⟨pA,0,none⟩=some (.slice A xs.length c):=cell_of_row wb pA 0 _ _ _ h1
  have HLEN:=aA hlen
  have hneX:pA≠w.heap.size:=fun e=>by
   rw[e]at h1
   rw[hbx]at h1
   injection h1 with h1
   exact aO (by decide) h1
  have HT:=aA hT
  have HA:=aA hA
  have HM:=aA hM
  clear h1 h2 h3 h4 h5 hE hx hbx hA hT hM hn hasc hlen hMl
  go_enter Tryz.func52,Tryz.ntmps52
  go_upto_region 1 with fail
  rw[←hwb]
  clear hwb
  go_upto_region 2 with fail
  have qT:∀y:OnP [pT,w.heap.size] wb,y.1.cell? ⟨pT,0,none⟩=some (.map (some M)):=fun y=>y.row (by simp) H3.out rfl
  have q0:∀y:OnP [pT,w.heap.size] wb,y.1.cell? ⟨w.heap.size,0,none⟩=some (.int .i64 x.1):=fun y=>y.row (by simp) HBX.out rfl
  have q1:∀y:OnP [pT,w.heap.size] wb,y.1.cell? ⟨w.heap.size,1,none⟩=some (.int .i64 x.2):=fun y=>y.row (by simp) HBX.out rfl
  clear x0 x1 cT lk
  have S0:∃y:OnP [pT,w.heap.size] wb,wb.drew=y.1:=⟨⟨wb.drew,fun _ _=>rfl⟩,rfl⟩
  refine CalmN.region_tree (fun x=>∃y:OnP [pT,w.heap.size] wb,x=y.1) (.two [0,1,3] 2 (.one [] 4 (.one [] 5 (.one [] 6 (.one [] 7 (.fin []))))) 4 (.one [] 2 (.one [] 5 (.one [] 6 (.one [] 7 (.fin [])))))) (by kernel_rfl) (by kernel_rfl) (fun _ _ d _ _ h=>by cases d <;> exact h) S0 ?_
  rw[CalmN.wpT]
  simp only[CalmN.pickOps,List.getElem?_toArray,List.getElem?_cons_zero,List.getElem?_cons_succ]
  repeat (go_big_quiet_step (fail))
  have HSX:=aA S0
  have HBD:Hid (Below w.heap.size w wb.drew):=aA (aB HBB.out 1)
  have H1:Hid (wb.drew.heap[pA]?=some (.cells #[.slice A xs.length c] 27 (0,0))):=H1
  have H2:Hid (aI 33 2 prF wb.drew base (.slice A xs.length c) xs):=H2
  have H3:Hid (wb.drew.heap[pT]?=some (.cells #[.map (some M)] 86 (0,0))):=H3
  have H4:Hid (Mw.MapIs itE wb.drew M l):=aA (H4.out.block rfl)
  have HBX:Hid (wb.drew.heap[w.heap.size]?=some (.cells #[.int .i64 x.1,.int .i64 x.2] 33 (0,0))):=HBX
  have cA:wb.drew.cell? ⟨pA,0,none⟩=some (.slice A xs.length c):=cA
  have HSK:Hid (∀y:World,y.heap[pT]?=wb.drew.heap[pT]?→y.heap[w.heap.size]?=wb.drew.heap[w.heap.size]?→∃z:OnP [pT,w.heap.size] wb,y=z.1):=aA (fun y e1 e2=>⟨⟨y,fun g hg=>by
   rcases List.mem_cons.1 hg with rfl|hg
   ·exact e1
   ·rw[List.mem_singleton.1 hg];exact e2⟩,rfl⟩)
  have hzs2:w.heap.size<wb.drew.heap.size:=hzs
  clear qT q0 q1
  generalize wb.drew=wd at *
  have HLA:Hid (Below wd.heap.size wd (wd.alloc (.cells #[.int .i64 x.1,.int .i64 x.2] 33))):=aA ((Below.refl _ _).alloc (Nat.le_refl _) _)
  have hpT:=(Array.getElem?_eq_some_iff.1 H3.out).1
  have hpA:=(Array.getElem?_eq_some_iff.1 H1.out).1
  have cA2:(wd.alloc (.cells #[.int .i64 x.1,.int .i64 x.2] 33)).cell? ⟨pA,0,none⟩=some (.slice A xs.length c):=cell_of_row _ pA 0 _ _ _ (aE HLA.out H1.out)
  have HS2:=aA (HSK.out (wd.alloc (.cells #[.int .i64 x.1,.int .i64 x.2] 33)) (HLA.out.block _ hpT) (HLA.out.block _ hzs2))
  refine wpQuiet_nil ⟨?_,?_⟩
  case' refine_1 =>
   simp only[CalmN.wpT,CalmN.wpSt,CalmN.pickOps,List.getElem?_toArray,List.getElem?_cons_zero,List.getElem?_cons_succ]
   intro KK hKK
   rw[if_pos (by rfl)]
   go_wp2_with fail
   refine hKK _ _ HSX.out _ (fun _ h=>h) HSX.out ?_
   clear hKK
   refine wpQuiet_nil ?_
   intro KK hKK
   rw[if_pos (by rfl)]
   go_wp2_with fail
   refine hKK _ _ HS2.out _ (fun _ h=>h) HS2.out ?_
   clear hKK
   refine wpQuiet_nil ?_
  case' refine_2 =>
   simp only[CalmN.wpT,CalmN.wpSt,CalmN.pickOps,List.getElem?_toArray,List.getElem?_cons_zero,List.getElem?_cons_succ]
   intro KK hKK
   rw[if_pos (by rfl)]
   go_wp2_with fail
   refine hKK _ _ HS2.out _ (fun _ h=>h) HS2.out ?_
   clear hKK
   refine wpQuiet_nil ?_
   intro KK hKK
   rw[if_pos (by rfl)]
   go_wp2_with fail
   refine hKK _ _ HS2.out _ (fun _ h=>h) HS2.out ?_
   clear hKK
   refine wpQuiet_nil ?_
  all_goals
   intro KK hKK
   rw[if_pos (by rfl)]
   have o1:=H2.out.alloc (.cells #[.int .i64 x.1,.int .i64 x.2] 33)
   have HO1:=aA o1
   have b1:=aE HLA.out H1.out
   have b3:=aE HLA.out H3.out
   have bX:=aE HLA.out HBX.out
   obtain⟨es,ck,hmb,hmr⟩:=H4.out
   have bM:=aE HLA.out hmb
   have hnew:=heap_alloc_new wd (.cells #[.int .i64 x.1,.int .i64 x.2] 33)
   clear o1 cA cA2
   refine zh1 (f:=prF) (.tmp 10) (.tmp 12) _ rfl Tryz.underlying27 _ 16 zbd (by decide) (by decide) (by decide) aG zaI base _ xs rfl HO1.out _ _ x rfl (zbk x _ _ hnew) (by have:=HLEN.out;omega) (Nat.le_trans HBL.out (by have:=HBD.out.size;simp;omega)) ?_
   intro v5 w5 ho5 hg5
   obtain⟨A5,c5,rfl,_,_,_⟩:=aI.form ho5 aG
   have m5:=aQ HO1.out hg5 bM fun cur e=>by cases e
   have t5:=aQ HO1.out hg5 b3 fun cur=>aO (by decide)
   have a5:=aQ HO1.out hg5 b1 fun cur=>aO (by decide)
   have x5:w5.heap[w.heap.size]?=some (.cells #[.int .i64 x.1,.int .i64 x.2] 33 (0,0)):=(hg5.block _ (Array.getElem?_eq_some_iff.1 bX).1 (fun e=>by have:=HOL.out _ e.symm;omega)).trans bX
   have HM5:Hid (Mw.MapIs itE w5 M l):=aA ⟨es,ck,m5,hmr⟩
   have HS5:=aA (HSK.out w5 (t5.trans H3.out.symm) (x5.trans HBX.out.symm))
   have HB5:Hid (Below base w w5):=aA (((HBD.out.mono HBL.out).trans (HLA.out.mono (Nat.le_trans HBL.out HBD.out.size))).grown hg5 (Nat.le_trans HBL.out (by have:=HBD.out.size;simp;omega)) (fun k e=>(World.ownsRow.lt HO1.out k e).1))
   have HT5:=aA t5
   have HA5:=aA a5
   have HX5:=aA x5
   have HO5:=aA ho5
   have HG5:=aA hg5
   have HC1:=aA b1
   have HC3:=aA b3
   clear m5 t5 a5 x5 ho5 hg5 b1 b3 bX bM hmb hmr hnew
   refine hKK _ _ HS5.out _ (fun _ h=>h) HS5.out ?_
   clear hKK
   refine wpQuiet_nil ?_
   intro KK hKK
   rw[if_pos (by rfl)]
   refine zhh _ _ _ _ rfl (HST.out w5 HM5.out) rfl rfl rfl ?_
   rintro w6 ⟨hm6,hg6⟩
   have hneT:M≠pT:=fun e=>by have:=HT5.out;rw[←e]at this;exact HM5.out.not_cells this
   have hneA:M≠pA:=fun e=>by have:=HA5.out;rw[←e]at this;exact HM5.out.not_cells this
   have t6:=(hg6.block pT (Array.getElem?_eq_some_iff.1 HT5.out).1 (fun e=>by injection e with e;exact hneT e.symm)).trans HT5.out
   have a6:=(hg6.block pA (Array.getElem?_eq_some_iff.1 HA5.out).1 (fun e=>by injection e with e;exact hneA e.symm)).trans HA5.out
   have x6:=(hg6.block w.heap.size (Array.getElem?_eq_some_iff.1 HX5.out).1 (fun e=>by injection e with e;exact HMX.out e.symm)).trans HX5.out
   have HS6:=aA (HSK.out w6 (t6.trans H3.out.symm) (x6.trans HBX.out.symm))
   have HB6:Hid (Below base w w6):=aA (zai HB5.out hg6 HM.out (Nat.le_trans HBL.out (by have:=HB5.out.size;omega)))
   have HP:=aA (AdSt.put HN.out HC1.out HO1.out HC3.out H5.out HA.out HT.out HM.out HO5.out HG5.out hm6 hg6 HM5.out).1
   have cA6:w6.cell? ⟨pA,0,none⟩=some (.slice A xs.length c):=cell_of_row w6 pA 0 _ _ _ a6
   have fA6:=frozen_of_row w6 pA 0 _ _ a6
   have lA6:=(Array.getElem?_eq_some_iff.1 a6).1
   have HS7:=aA (HSK.out (w6.setCell ⟨pA,0,none⟩ (.slice A5 (xs++[x]).length c5)) ((HP.out.t).trans H3.out.symm) ((Below.heap_setCell w6 ⟨pA,0,none⟩ _ w.heap.size (fun e=>hneX e.symm)).trans (x6.trans HBX.out.symm)))
   have HB7:Hid (Below base w (w6.setCell ⟨pA,0,none⟩ (.slice A5 (xs++[x]).length c5))):=aA (HB6.out.setCell HA.out _)
   obtain⟨es5,ck5,hmb5,_⟩:=HM5.out
   have HK7:Hid (KeepI w (w6.setCell ⟨pA,0,none⟩ (.slice A5 (xs++[x]).length c5))):=aA (((((KeepI.below HBD.out).trans (.below HLA.out)).trans (.own HO1.out HG5.out)).trans (.map hmb5 hg6)).trans (.set a6 _))
   clear hm6 hg6 hneT hneA t6 a6 x6 hmb5
   generalize (xs++[x]).length=ln at *
   refine hKK _ _ HS6.out _ (fun _ h=>h) HS6.out ?_
   clear hKK
   refine wpQuiet_nil ?_
   intro KK hKK
   rw[if_pos (by rfl)]
   go_wp2_with fail
   refine hKK _ _ HS7.out _ (fun _ h=>h) HS7.out ?_
   clear hKK cA6 fA6 lA6
   refine wpQuiet_nil ?_
   go_wp2
   go_end0
   exact⟨rfl,HP.out,HB7.out,HK7.out⟩
namespace Au
def begT (G:Gm.Gr) (left:Int) (i:Nat):List It:=((List.range i).filter fun k=>decide ((G.rs.getD k ⟨0,[],0⟩).l=left)).map fun k:Nat=>((k:Int),(0:Int))
theorem begT_yes {G:Gm.Gr} {left:Int} {i:Nat} (hi:i<G.rs.length) (h:(G.rs[i]).l=left):begT G left (i+1)=begT G left i++[((i:Int),0)]:=by
 unfold begT
 rw[List.range_succ,List.filter_append,List.map_append,List.filter_cons,if_pos (by rw[decide_eq_true_eq,List.getD_eq_getElem?_getD,List.getElem?_eq_getElem hi,Option.getD_some];exact h)]
 rfl
theorem begT_no {G:Gm.Gr} {left:Int} {i:Nat} (hi:i<G.rs.length) (h:(G.rs[i]).l≠left):begT G left (i+1)=begT G left i:=by
 unfold begT
 rw[List.range_succ,List.filter_append,List.map_append,List.filter_cons,if_neg (by rw[decide_eq_true_eq,List.getD_eq_getElem?_getD,List.getElem?_eq_getElem hi,Option.getD_some];exact h)]
 simp
theorem begT_len (G:Gm.Gr) (left:Int) (i:Nat):(begT G left i).length≤i:=by
 unfold begT
 rw[List.length_map]
 have:=List.length_filter_le (fun k=>decide ((G.rs.getD k ⟨0,[],0⟩).l=left)) (List.range i)
 rw[List.length_range]at this
 exact this
theorem addE_beg {G:Gm.Gr} {x:It} {s:Int} (h:nx G x=some s) (h0:s<0):addE G x=begT G (-1-s) G.rs.length:=by
 unfold addE begT
 rw[h]
 simp only[if_pos h0]
theorem addE_no {G:Gm.Gr} {x:It} (h:∀s,nx G x=some s→0≤s):addE G x=[]:=by
 unfold addE
 cases hn:nx G x with
 | none=>rfl
 | some s =>
  have:=h s hn
  simp only
  rw[if_neg (by omega)]
theorem addsX_up:∀ {zs xs:List It},(addsX xs zs).length≤xs.length+zs.length
 | [],_=>Nat.le_refl _
 | z::zs,xs=>by
  have h:=addsX_up (zs:=zs) (xs:=addX xs z)
  have h1:(addX xs z).length≤xs.length+1:=by
   unfold addX
   split
   ·omega
   ·simp
  have e:addsX xs (z::zs)=addsX (addX xs z) zs:=rfl
  rw[e,List.length_cons]
  omega
end Au
theorem zfr (v:Value) (G:Gm.Gr) (B:Nat) (left:Int) (w:World) (base pA pT M:Nat) (xs:List Au.It) (hg:aT w B v G) (hB:B≤base) (hr:G.rs.length≤1000) (h:AdSt w base pA pT M xs) (hlen:xs.length≤50000) :
  Calls Tryz.prog 54 #[v,.int .i64 left,.func (Fn.func 52) #[] #[.pointer (some ⟨pT,0,none⟩),.pointer (some ⟨pA,0,none⟩)]] w fun e w'=>e=.returned (.tuple #[])∧AdSt w' base pA pT M (Au.addsX xs (Au.begT G left G.rs.length))∧Below base w w'∧KeepI w w':=by
 obtain⟨AT,cT,AN,cN,AR,cR,rfl,_,_,⟨hlR,hmR⟩,_,_,hR⟩:=hg
 obtain⟨wb,hwb⟩:∃y,y=w.alloc (.cells #[.slice AT G.ts.length cT,.slice AN G.ns.length cN,.slice AR G.rs.length cR,.int .i64 G.st] 26):=⟨_,rfl⟩
 have HBB:Hid (Below w.heap.size w wb):=aA (by rw[hwb];exact(Below.refl _ _).alloc (Nat.le_refl _) _)
 have hbx:wb.heap[w.heap.size]?=some (.cells #[.slice AT G.ts.length cT,.slice AN G.ns.length cN,.slice AR G.rs.length cR,.int .i64 G.st] 26 (0,0)):=by rw[hwb];exact heap_alloc_new w _
 have HR:=aA hR
 have HBS:=aA h.base_le
 have HB:=aA hB
 have HH:=aA (h.below HBB.out)
 have x2:wb.cell? ⟨w.heap.size,2,none⟩=some (.slice AR G.rs.length cR):=cell_of_row wb _ 2 _ _ _ hbx
 have HB0:Hid (Below base w wb):=aA (HBB.out.mono HBS.out)
 have HK0:Hid (KeepI w wb):=aA (.below HBB.out)
 have hlen2:(G.rs.length:Int)≤1000:=by omega
 have HL:=aA hlen
 clear hR hB h hbx hlen
 go_enter Tryz.func54,Tryz.ntmps54
 go_upto_region 1 with fail
 rw[←hwb]
 clear hwb
 go_wp2
 go_loopw [11] (fun vi wr=>∃i:Nat,i≤G.rs.length∧vi=.int .i64 i∧Hid (AdSt wr base pA pT M (Au.addsX xs (Au.begT G left i)))∧Hid (Below base w wr)∧Hid (KeepI w wr)) (fun vi _=>G.rs.length-(intOf vi).toNat)
 case atStart=>exact⟨0,Nat.zero_le _,rfl,HH,HB0,HK0⟩
 case round =>
  obtain⟨i,hi,rfl,HA,HW,HK⟩:=hrel
  by_cases hlt:i<G.rs.length
  ·obtain⟨g,o,rfl,hgB,hc⟩:=HR.out (by omega)
   obtain⟨k0,⟨A',c',k1,hlc,_,hri⟩,k2⟩:=hc i hlt
   have hgb:g<base:=Nat.lt_of_lt_of_le hgB HB.out
   have k0:=(HW.out.cell (p:=⟨g,o+i*3,none⟩) hgb).trans k0
   have k1:=(HW.out.cell (p:=⟨g,o+i*3+1,none⟩) hgb).trans k1
   have k2:=(HW.out.cell (p:=⟨g,o+i*3+2,none⟩) hgb).trans k2
   have HLN:=aA (show(Au.addsX xs (Au.begT G left i)).length≤100000 by have:=Au.addsX_up (xs:=xs) (zs:=Au.begT G left i);have:=Au.begT_len G left i;have:=HL.out;omega)
   obtain⟨wi,hwi⟩:∃y,y=wr.alloc (.cells #[.int .i64 (G.rs[i]).l,.slice A' (G.rs[i]).r.length c',.int .i64 (G.rs[i]).p] 60):=⟨_,rfl⟩
   have HBI:Hid (Below wr.heap.size wr wi):=aA (by rw[hwi];exact(Below.refl _ _).alloc (Nat.le_refl _) _)
   have hbi:wi.heap[wr.heap.size]?=some (.cells #[.int .i64 (G.rs[i]).l,.slice A' (G.rs[i]).r.length c',.int .i64 (G.rs[i]).p] 60 (0,0)):=by rw[hwi];exact heap_alloc_new wr _
   have y0:wi.cell? ⟨wr.heap.size,0,none⟩=some (.int .i64 (G.rs[i]).l):=cell_of_row wi _ 0 _ _ _ hbi
   have HWI:=aA (HW.out.trans (HBI.out.mono (Nat.le_trans HBS.out HK.out.size)))
   have HKI:=aA (HK.out.trans (.below HBI.out))
   have HAI:=aA (HA.out.below HBI.out)
   have HAD:=aA (zeP wi base pA pT M _ ((i:Int),0) HAI.out (by unfold Gm.In;simp only;omega) HLN.out)
   have hY:=Au.begT_yes (left:=left) hlt
   have hN:=Au.begT_no (left:=left) hlt
   clear hc hri hlc hbi HLN
   generalize (G.rs[i]).l=lf at *
   generalize (G.rs[i]).r.length=rn at *
   generalize (G.rs[i]).p=rp at *
   go_upto_region 4 with fail
   rw[←hwi]
   clear hwi k0 k1 k2
   by_cases he:lf=left
   ·have hYE:=aA (hY he)
    have hq:(lf==left)=true:=by rw[beq_iff_eq];exact he
    clear hY hN he
    go_wp2_with fail
    refine HAD.out.mono ?_;rintro _ w2 ⟨rfl,ha2,hb2,hk2⟩
    have HA2:=aA ha2
    have HB2:=aA (HWI.out.trans hb2)
    have HK2:=aA (HKI.out.trans hk2)
    clear ha2 hb2 hk2 y0
    go_wp2
    go_roundw
    case rel=>exact⟨i+1,hlt,by go_num,aA (by rw[hYE.out,Au.addsX_snoc];exact HA2.out),HB2,HK2⟩
    case measure=>simp[intOf];omega
   ·have hNE:=aA (hN he)
    have hq:(lf==left)=false:=by rw[beq_eq_false_iff_ne];exact he
    clear hY hN he HAD
    go_wp2
    go_roundw
    case rel=>exact⟨i+1,hlt,by go_num,aA (by rw[hNE.out];exact HAI.out),HWI,HKI⟩
    case measure=>simp[intOf];omega
  ·obtain rfl:i=G.rs.length:=by omega
   go_wp2
   go_end0
   exact⟨rfl,HA.out,HW.out,HK.out⟩
end Go.Proofs.YtabmfpgpkbndeaaGreat
namespace Go.Proofs
open Go.Shelf
def Tryz.sortIt_ren:Go.Shelf.Ren:=⟨fun|6=>56|15=>86|14=>85|28=>125|29=>126|20=>117|21=>118|22=>119|23=>120|24=>121|25=>122|26=>123|27=>124|46=>156|47=>157|48=>158|49=>159|50=>160|57=>169|n=>n,fun|22=>27|24=>33|25=>92|3=>3|39=>130|0=>0|53=>168|55=>170|4=>4|46=>162|45=>161|50=>30|5=>5|9=>9|66=>190|70=>194|76=>199|77=>200|n=>n,fun|n=>n⟩
theorem Tryz.sortIt:Go.Proofs.SlLaysF0.n6 Tryz.prog Tryz.sortIt_ren:={
 mixed:=by kernel_rfl
 f6:=⟨Tryz.f56.name,by decide,Tryz.func56.trans (congrArg some (by kernel_rfl))⟩
 f14:=⟨Tryz.f85.name,by decide,Tryz.func85.trans (congrArg some (by kernel_rfl))⟩
 f15:=Tryz.func86.trans (congrArg some (by kernel_rfl))
 f20:=⟨Tryz.f117.name,by decide,Tryz.func117.trans (congrArg some (by kernel_rfl))⟩
 f21:=⟨Tryz.f118.name,by decide,Tryz.func118.trans (congrArg some (by kernel_rfl))⟩
 f22:=⟨Tryz.f119.name,by decide,Tryz.func119.trans (congrArg some (by kernel_rfl))⟩
 f23:=⟨Tryz.f120.name,by decide,Tryz.func120.trans (congrArg some (by kernel_rfl))⟩
 f24:=⟨Tryz.f121.name,by decide,Tryz.func121.trans (congrArg some (by kernel_rfl))⟩
 f25:=⟨Tryz.f122.name,by decide,Tryz.func122.trans (congrArg some (by kernel_rfl))⟩
 f26:=⟨Tryz.f123.name,by decide,Tryz.func123.trans (congrArg some (by kernel_rfl))⟩
 f27:=⟨Tryz.f124.name,by decide,Tryz.func124.trans (congrArg some (by kernel_rfl))⟩
 f28:=Tryz.func125.trans (congrArg some (by kernel_rfl))
 f29:=Tryz.func126.trans (congrArg some (by kernel_rfl))
 f46:=⟨Tryz.f156.name,by decide,Tryz.func156.trans (congrArg some (by kernel_rfl))⟩
 f47:=Tryz.func157.trans (congrArg some (by kernel_rfl))
 f48:=Tryz.func158.trans (congrArg some (by kernel_rfl))
 f49:=⟨Tryz.f159.name,by decide,Tryz.func159.trans (congrArg some (by kernel_rfl))⟩
 f50:=⟨Tryz.f160.name,by decide,Tryz.func160.trans (congrArg some (by kernel_rfl))⟩
 f57:=⟨Tryz.f169.name,by decide,Tryz.func169.trans (congrArg some (by kernel_rfl))⟩
 t0:=Tryz.underlying0
 a0:=Tryz.isAgg0
 z0:=Tryz.sizeOf0
 v0:=Tryz.zeroValue0
 t3:=Tryz.underlying3
 a3:=Tryz.isAgg3
 z3:=Tryz.sizeOf3
 v3:=Tryz.zeroValue3
 t4:=Tryz.underlying4
 a4:=Tryz.isAgg4
 z4:=Tryz.sizeOf4
 v4:=Tryz.zeroValue4
 t5:=Tryz.underlying5
 a5:=Tryz.isAgg5
 z5:=Tryz.sizeOf5
 v5:=Tryz.zeroValue5
 t9:=Tryz.underlying9
 a9:=Tryz.isAgg9
 z9:=Tryz.sizeOf9
 v9:=Tryz.zeroValue9
 t22:=Tryz.underlying27
 a22:=Tryz.isAgg27
 z22:=Tryz.sizeOf27
 v22:=Tryz.zeroValue27
 t25:=Tryz.underlying92
 a25:=Tryz.isAgg92
 z25:=Tryz.sizeOf92
 v25:=Tryz.zeroValue92
 t39:=Tryz.underlying130
 a39:=Tryz.isAgg130
 z39:=Tryz.sizeOf130
 v39:=Tryz.zeroValue130
 t45:=Tryz.underlying161
 a45:=Tryz.isAgg161
 z45:=Tryz.sizeOf161
 v45:=Tryz.zeroValue161
 t46:=Tryz.underlying162
 a46:=Tryz.isAgg162
 z46:=Tryz.sizeOf162
 v46:=Tryz.zeroValue162
 t50:=Tryz.underlying30
 a50:=Tryz.isAgg30
 z50:=Tryz.sizeOf30
 v50:=Tryz.zeroValue30
 t53:=Tryz.underlying168
 a53:=Tryz.isAgg168
 z53:=Tryz.sizeOf168
 v53:=Tryz.zeroValue168
 t55:=Tryz.underlying170
 a55:=Tryz.isAgg170
 z55:=Tryz.sizeOf170
 v55:=Tryz.zeroValue170
 t66:=Tryz.underlying190
 a66:=Tryz.isAgg190
 z66:=Tryz.sizeOf190
 v66:=Tryz.zeroValue190
 t70:=Tryz.underlying194
 a70:=Tryz.isAgg194
 z70:=Tryz.sizeOf194
 v70:=Tryz.zeroValue194
 t76:=Tryz.underlying199
 a76:=Tryz.isAgg199
 z76:=Tryz.sizeOf199
 v76:=Tryz.zeroValue199
 t77:=Tryz.underlying200
 a77:=Tryz.isAgg200
 z77:=Tryz.sizeOf200
 v77:=Tryz.zeroValue200}
end Go.Proofs
namespace Go.Proofs.YtabmfpgpkbndeaaGreat
set_option maxRecDepth 100000
set_option maxHeartbeats 40000000
open Go.RowKit
theorem ziB (a b r:Int) (hr:(if a=0 then b else a)=r) (g:Nat) (w:World) (h0:w.cell? ⟨g,0,none⟩=some (.int .i64 a)) (h1:w.cell? ⟨g,1,none⟩=some (.int .i64 b)) :
  Calls Tryz.prog 87 #[.slice (some ⟨g,0,none⟩) 2 2] w fun e w'=>e=.returned (.int .i64 r)∧w'=w:=by
 by_cases ha:a=0
 ·rw[if_pos ha]at hr
  subst ha hr
  by_cases hb:b=0
  ·subst hb
   go_enter Tryz.func87,Tryz.ntmps87
   go_wp2
   go_loopw [8] (fun vi wr=>∃k:Nat,k≤2∧vi=.int .i64 k∧wr=w) (fun vi _=>2-(intOf vi).toNat)
   case atStart=>exact⟨0,by omega,rfl,by trivial⟩
   case round =>
    obtain⟨k,hk,rfl,rfl⟩:=hrel
    by_cases hlt:k<2
    ·have hc:wr.cell? ⟨g,k,none⟩=some (.int .i64 0):=by
      match k,hlt with
      | 0,_=>exact h0
      | 1,_=>exact h1
     clear h0 h1
     go_wp2
     go_roundw
     case rel=>exact⟨k+1,hlt,by go_num,by trivial⟩
     case measure=>simp[intOf];omega
    ·have:¬(k:Int)<2:=by omega
     go_wp2
     go_ret
     exact⟨rfl,rfl⟩
  ·have hq:(b != 0)=true:=by rw[bne_iff_ne];exact hb
   clear hb
   go_enter Tryz.func87,Tryz.ntmps87
   go_wp2
   go_loopw [8] (fun vi wr=>∃k:Nat,k≤1∧vi=.int .i64 k∧wr=w) (fun vi _=>2-(intOf vi).toNat)
   case atStart=>exact⟨0,by omega,rfl,by trivial⟩
   case round =>
    obtain⟨k,hk,rfl,rfl⟩:=hrel
    by_cases hlt:k=0
    ·subst hlt
     clear h1
     go_wp2
     go_roundw
     case rel=>exact⟨1,by omega,by go_num,by trivial⟩
     case measure=>simp[intOf]
    ·obtain rfl:k=1:=by omega
     clear h0
     go_wp2
     go_ret
     exact⟨rfl,rfl⟩
 ·rw[if_neg ha]at hr
  subst hr
  have hq:(a != 0)=true:=by rw[bne_iff_ne];exact ha
  clear h1 ha
  go_enter Tryz.func87,Tryz.ntmps87
  go_wp2
  go_loopw [8] (fun vi wr=>vi=.int .i64 0∧wr=w) (fun _ _=>0)
  case atStart=>exact⟨rfl,by trivial⟩
  case round =>
   obtain⟨rfl,rfl⟩:=hrel
   go_wp2
   go_ret
   exact⟨rfl,rfl⟩
namespace Au
def cmpI (x y:It):Int:=if Lib.compareInt x.1 y.1=0 then Lib.compareInt x.2 y.2 else Lib.compareInt x.1 y.1
theorem cmpI_lt (x y:It):ltOf cmpI x y=lt x y:=by
 unfold ltOf cmpI Lib.compareInt lt
 rw[Bool.eq_iff_iff]
 simp only[decide_eq_true_eq,Bool.or_eq_true,Bool.and_eq_true]
 split <;> split <;> (try split) <;> (try split) <;> omega
end Au
theorem zd9 (x y:Au.It) (W:World) :
  Calls Tryz.prog 57 #[itV x,itV y] W fun e w'=>e=.returned (.int .i64 (Au.cmpI x y))∧∃q os',w'=Go.Sort.grow (W.drewN q) os':=by
 have HC1:=aA (fun(w:World)=>Tryz.cmp_Compare_int x.1 y.1 w)
 have HC2:=aA (fun(w:World)=>Tryz.cmp_Compare_int x.2 y.2 w)
 have HE:Hid (Au.cmpI x y=if Lib.compareInt x.1 y.1=0 then Lib.compareInt x.2 y.2 else Lib.compareInt x.1 y.1):=aA rfl
 obtain⟨wb,hwb⟩:∃z,z=(W.alloc (.cells #[.int .i64 x.1,.int .i64 x.2] 33)).alloc (.cells #[.int .i64 y.1,.int .i64 y.2] 33):=⟨_,rfl⟩
 have HT:Hid (bH 33 33 W #[.int .i64 x.1,.int .i64 x.2] #[.int .i64 y.1,.int .i64 y.2] wb):=aA (by rw[hwb];exact bH.start _ _ _ _ _)
 have HG:Hid (∃os',wb=Go.Sort.grow W os'):=aA ⟨_,by rw[hwb,Go.Sort.alloc_eq_grow,Go.Sort.alloc_eq_grow,Go.Sort.grow_grow]⟩
 have hz:W.heap.size+2≤wb.heap.size:=HT.out.size
 have HO:=aA (fun(g:Nat) (w:World)=>ziB (Lib.compareInt x.1 y.1) (Lib.compareInt x.2 y.2) (Au.cmpI x y) HE.out.symm g w)
 generalize Au.cmpI x y=r at *
 generalize Lib.compareInt x.1 y.1=c1 at *
 generalize Lib.compareInt x.2 y.2=c2 at *
 clear HE
 go_enter Tryz.func57,Tryz.ntmps57
 go_upto_region 1 with fail
 rw[←hwb]
 clear hwb
 have q0:∀z:Calm.On wb.heap.size wb,z.1.cell? ⟨W.heap.size,0,none⟩=some (.int .i64 x.1):=fun z=>(HT.out.on z.2).c1 0 _ rfl
 have q1:∀z:Calm.On wb.heap.size wb,z.1.cell? ⟨W.heap.size,1,none⟩=some (.int .i64 x.2):=fun z=>(HT.out.on z.2).c1 1 _ rfl
 have q2:∀z:Calm.On wb.heap.size wb,z.1.cell? ⟨W.heap.size+1,0,none⟩=some (.int .i64 y.1):=fun z=>(HT.out.on z.2).c2 0 _ rfl
 have q3:∀z:Calm.On wb.heap.size wb,z.1.cell? ⟨W.heap.size+1,1,none⟩=some (.int .i64 y.2):=fun z=>(HT.out.on z.2).c2 1 _ rfl
 have HS0:Hid (∃z:Calm.On wb.heap.size wb,wb.drew=z.1):=aA ⟨⟨wb.drew,aB (Below.refl _ _) 1⟩,rfl⟩
 have HS1:Hid (∀o:Obj,∃z:Calm.On wb.heap.size wb,wb.drew.alloc o=z.1):=aA (fun o=>⟨⟨wb.drew.alloc o,(aB (Below.refl _ _) 1).alloc (Nat.le_refl _) o⟩,rfl⟩)
 refine CalmN.region_tree (fun x=>∃z:Calm.On wb.heap.size wb,x=z.1) (.one [0,1,2,3,5,6,7,8] 4 (.one [] 9 (.one [] 10 (.one [] 11 (.fin [12]))))) (by kernel_rfl) (by kernel_rfl) (fun _ _ d _ _ h=>by cases d <;> exact h) HS0.out ?_
 simp only[CalmN.wpT,CalmN.wpSt,CalmN.pickOps,List.getElem?_toArray,List.getElem?_cons_zero,List.getElem?_cons_succ]
 repeat (go_big_quiet_step (fail))
 refine wpQuiet_nil ?_
 have HD:Hid (∃os',wb.drew=Go.Sort.grow (W.drewN 1) os'):=aA (by obtain⟨os',e⟩:=HG.out;exact⟨os',by rw[e];rfl⟩)
 clear q0 q1 q2 q3 HG
 generalize wb.drew=wd at *
 intro KK hKK
 rw[if_pos (by rfl)]
 go_wp2_with fail
 refine(HC1.out _).mono ?_;rintro _ wd ⟨rfl,rfl⟩
 go_wp2_with fail
 refine hKK _ _ HS0.out _ (fun _ h=>h) HS0.out ?_
 clear hKK
 refine wpQuiet_nil ?_
 intro KK hKK
 rw[if_pos (by rfl)]
 go_wp2_with fail
 refine(HC2.out _).mono ?_;rintro _ wd ⟨rfl,rfl⟩
 go_wp2_with fail
 refine hKK _ _ HS0.out _ (fun _ h=>h) HS0.out ?_
 clear hKK
 refine wpQuiet_nil ?_
 intro KK hKK
 rw[if_pos (by rfl)]
 go_wp2_with fail
 refine hKK _ _ (HS1.out _) _ (fun _ h=>h) (HS1.out _) ?_
 clear hKK
 refine wpQuiet_nil ?_
 intro KK hKK
 rw[if_pos (by rfl)]
 have hnew:=heap_alloc_new wd (.cells #[.int .i64 c1,.int .i64 c2] 3)
 have HO2:=aA (HO.out wd.heap.size _ (cell_of_row _ _ 0 _ _ _ hnew) (cell_of_row _ _ 1 _ _ _ hnew))
 clear hnew
 go_wp2_with fail
 refine HO2.out.mono ?_;rintro _ wz ⟨rfl,hwz⟩
 subst hwz
 go_wp2_with fail
 refine hKK _ _ (HS1.out _) _ (fun _ h=>h) (HS1.out _) ?_
 clear hKK
 repeat (go_big_quiet_step (fail))
 refine wpQuiet_nil ?_
 obtain⟨os',e⟩:=HD.out
 have HF:Hid (∃q os',wd.alloc (.cells #[.int .i64 c1,.int .i64 c2] 3)=Go.Sort.grow (W.drewN q) os'):=aA ⟨1,_,by rw[Go.Sort.alloc_eq_grow,e,Go.Sort.grow_grow]⟩
 clear e
 go_wp2
 go_ret
 exact⟨rfl,HF.out⟩
theorem zeC (ts:List Au.It):Go.Sort.flatK prF 2 ts.toArray=(ts.flatMap prF).toArray:=by
 refine Go.Sort.ext_get! (by simp[zfa aG]) fun t ht=>?_
 rw[Go.Sort.size_flatK]at ht
 rw[Go.Sort.get_flatK _ _ _ _ ht]
 have hts:t / 2<ts.length:=by simpa[Nat.div_lt_iff_lt_mul] using ht
 have h:=qat aG ts (t / 2) (t % 2) hts (Nat.mod_lt _ (by decide))
 rw[show t / 2*2+t % 2=t by omega]at h
 have e1:ts.toArray[t / 2]! = ts[t / 2]:=by simp[hts]
 rw[e1]
 have hl:t<(ts.flatMap prF).length:=by rw[zfa aG];omega
 have hm:t % 2<(prF ts[t / 2]).length:=by rw[aG];omega
 rw[List.getElem?_eq_getElem hl,List.getElem?_eq_getElem hm]at h
 injection h with h
 rw[getElem!_pos (prF ts[t / 2]) (t % 2) hm,getElem!_pos (ts.flatMap prF).toArray t (by simpa using hl)]
 simpa using h.symm
theorem zgS:Go.Sort.SWO (ltOf Au.cmpI) where
 irrefl x:=by rw[Au.cmpI_lt];exact Au.lt_irr x
 trans x y z h1 h2:=by rw[Au.cmpI_lt]at *;exact Au.lt_trans h1 h2
 ntrans x y z h1 h2:=by
  rw[Au.cmpI_lt]at *
  cases h:Au.lt x z
  ·rfl
  ·have a:¬Au.lt x y=true:=by rw[h1];decide
   have b:¬Au.lt y z=true:=by rw[h2];decide
   rw[Au.lt_iff]at h a b
   omega
def Au.srt (xs:List Au.It):List Au.It:=xs.mergeSort fun x y=>!Au.lt y x
theorem Au.srt_ok {xs:List Au.It} (h:xs.Nodup):Au.Srt (Au.srt xs)∧∀x,x∈Au.srt xs↔x∈xs:=by
 have hp:(Au.srt xs).Perm xs:=List.mergeSort_perm _ _
 refine⟨Au.srt_of h hp ?_,fun x=>hp.mem_iff⟩
 have hs:=List.pairwise_mergeSort (le:=fun x y=>!Au.lt y x) (fun a b c h1 h2=>by
  simp only[Bool.not_eq_true']at *
  have a1:¬Au.lt b a=true:=by rw[h1];decide
  have b1:¬Au.lt c b=true:=by rw[h2];decide
  cases q:Au.lt c a
  ·rfl
  ·rw[Au.lt_iff]at q a1 b1
   omega) (fun a b=>by
  cases q:Au.lt b a
  ·rfl
  ·have:Au.lt a b=false:=by
    cases k:Au.lt a b
    ·rfl
    ·rw[Au.lt_iff]at q k;omega
   rw[this];rfl) xs
 exact hs.imp fun {a b} h=>by simpa using h
theorem zfb {w:World} {base g cap:Nat} {xs ts:List Au.It} (h:aI 33 2 prF w base (.slice (some ⟨g,0,none⟩) xs.length cap) xs) (hl:ts.length=xs.length) (n:Nat) (os:Array Obj) :
  aI 33 2 prF (sortWorldK prF 2 w g 0 n ts.toArray os) base (.slice (some ⟨g,0,none⟩) xs.length cap) ts∧w.grownBy (sortWorldK prF 2 w g 0 n ts.toArray os) (some g):=by
 have hF:(ts.flatMap prF).length=xs.length*2:=by rw[zfa aG,hl]
 rcases h.2 with⟨e,h0⟩|⟨g',cap',cur,e,hb,hg,hn,hm,hs,ht⟩
 ·cases e
 ·injection e with e1 e2 e3
  injection e1 with e1
  injection e1 with e1
  subst e1 e3
  unfold sortWorldK Go.Sort.putRowK aI
  rw[zeC]
  have hq:(ts.flatMap prF).length=ts.length*2:=zfa aG ts
  generalize ts.flatMap prF=F at *
  have hgs:g<w.heap.size:=(Array.getElem?_eq_some_iff.1 hg).1
  refine⟨?_,⟨rfl,rfl,rfl,by simp,fun k hk hne=>?_⟩⟩
  ·refine⟨hq,.inr ⟨g,cap,Go.Sort.putCells id 0 F.toArray cur,by rw[hl],hb,?_,by omega,hm,by simp[Go.Sort.putCells,hs],?_⟩⟩
   ·rw[Go.Sort.heap_grow_old _ _ (by simpa using hgs)]
    simp[Go.Sort.putRow,Go.Sort.mapBlock,Go.Sort.ahead,Array.getElem?_modify,hg,Go.Sort.onCells]
   ·rw[hl,←hF]
    have hle:F.length≤cur.size:=by rw[hF,hs];exact Nat.mul_le_mul_right 2 hn
    apply List.ext_getElem?
    intro j
    by_cases hj:j<F.length
    ·rw[List.getElem?_take_of_lt hj,Array.getElem?_toList]
     simp[Go.Sort.putCells,hj,show j<cur.size by omega]
    ·rw[List.getElem?_take_eq_none (by omega),List.getElem?_eq_none (by omega)]
  ·rw[Go.Sort.heap_grow_old _ _ (by simpa using hk)]
   have:g≠k:=fun e=>hne (by rw[e])
   simp[Go.Sort.putRow,Go.Sort.mapBlock,Go.Sort.ahead,Array.getElem?_modify,this]
theorem zgk {w:World} {base g cap:Nat} {xs:List Au.It} (h:aI 33 2 prF w base (.slice (some ⟨g,0,none⟩) xs.length cap) xs):Go.Sort.HoldsK prF 2 w g 0 xs.toArray:=by
 rcases h.2 with⟨e,h0⟩|⟨g',cap',cur,e,hb,hg,hn,hm,hs,ht⟩
 ·cases e
 ·injection e with e1 e2 e3
  injection e1 with e1
  injection e1 with e1
  subst e1 e3
  unfold Go.Sort.HoldsK
  rw[zeC]
  intro j hj
  have hj:j<(xs.flatMap prF).length:=by simpa using hj
  have hj2:j<xs.length*2:=by rw[←zfa aG];exact hj
  refine⟨?_,frozen_of_row w g _ _ _ hg⟩
  rw[Nat.zero_add,cell_of_row w g j _ _ _ hg]
  have h2:(cur.toList.take (xs.length*2))[j]?=(xs.flatMap prF)[j]?:=by rw[ht]
  rw[List.getElem?_take_of_lt hj2,Array.getElem?_toList]at h2
  rw[h2,getElem!_pos (xs.flatMap prF).toArray j (by simpa using hj),List.getElem?_eq_getElem hj]
  simp
theorem zgK {w:World} {base:Nat} {v:Value} {xs:List Au.It} (h:aI 33 2 prF w base v xs) (hl:xs.length≤1000000) :
  Calls Tryz.prog 56 #[v,.func (Fn.func 57) #[] #[]] w fun e w'=>e=.returned (.tuple #[])∧aI 33 2 prF w' base v (Au.srt xs)∧w.grownBy w' v.ownBlock:=by
 have hsl:(Au.srt xs).length=xs.length:=List.length_mergeSort _
 rcases Nat.eq_zero_or_pos xs.length with h0|h0
 ·have hx:xs=[]:=List.eq_nil_of_length_eq_zero h0
  subst hx
  obtain⟨A,c,rfl,_⟩:=aI.form h aG
  refine(AnyF.slices_SortFunc_none Tryz.sortIt A c _ w).mono ?_
  rintro e w' ⟨rfl,rfl⟩
  exact⟨rfl,by rw[show Au.srt []=[] by simp[Au.srt]];exact h,World.grownBy.refl _ _⟩
 ·obtain⟨g,c,rfl,hlc,_,hbg⟩:=aI.addr h (by omega)
  have eg:∀args w,(callFunc 57 args).run Tryz.prog w=.ok (.enter 57 args) w:=enters_of Tryz.func57 (by kernel_rfl) rfl
  have hcon:=AnyQ.slices_SortFunc_total Tryz.sortIt 2 (fun _=>by kernel_rfl) (fun _=>by kernel_rfl) prF aG zaI Au.cmpI zgS 57 #[] g 0 c xs.toArray w eg (fun _ _ _ _ x y=>zd9 x y _) (zgk h) (aI.lt h) (by simp;omega) (fun x y h1 h2=>by
   rw[Au.cmpI_lt]at h1 h2
   exact Classical.byContradiction fun hn=>by rw[Au.lt_or h1 hn]at h2;cases h2)
  have e1:xs.toArray.size=xs.length:=by simp
  rw[e1]at hcon
  refine Calls.mono hcon ?_
  rintro e w' ⟨rfl,n,os,rfl⟩
  have e2:(xs.toArray.toList.mergeSort fun x y=>!(ltOf Au.cmpI) y x)=Au.srt xs:=by
   unfold Au.srt
   congr 1
   funext x y
   rw[Au.cmpI_lt]
  rw[e2]
  obtain⟨h1,h2⟩:=zfb h hsl n os
  exact⟨rfl,h1,h2⟩
end Go.Proofs.YtabmfpgpkbndeaaGreat
