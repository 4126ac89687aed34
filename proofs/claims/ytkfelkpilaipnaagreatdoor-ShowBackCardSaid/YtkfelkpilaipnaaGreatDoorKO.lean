/- Part of the proofs over this program: CfgSame, CfgSame2, RowKit. -/
import Derived.Deep.Slices
import Derived.Deep.Fields
import Derived.ChangeSame
import Derived.Lib.SmallJoins
import Derived.SliceStrings
import Derived.Test.YtkfelkpilaipnaaGreatDoorRows
import Derived.SizedLaws
import Derived.LaidMore
import Derived.Stop.Joined
import Derived.ShutString
import Derived.ChangeOld
import Derived.Test.YtkfelkpilaipnaaGreatDoorKN
namespace Go.Proofs.YtkfelkpilaipnaaGreatDoor
set_option maxRecDepth 100000
set_option maxHeartbeats 40000000
open Go.RowKit
noncomputable def eqb {α:Type} (a b:α):Bool:=@decide (a=b) (Classical.propDecidable _)
theorem za9 {α:Type} {a b:α} (h:a=b):eqb a b=true:=by unfold eqb;exact @decide_eq_true _ (Classical.propDecidable _) h
theorem zeA {α:Type} {a b:α} (h:¬a=b):eqb a b=false:=by unfold eqb;exact @decide_eq_false _ (Classical.propDecidable _) h
theorem zj4 (s s':ByteArray) (a a' b b':Int) (w:World):(Op.equalIn 10000 51 (.agg #[.string s,.int .i64 a,.int .i64 b]) (.agg #[.string s',.int .i64 a',.int .i64 b'])).run Tryz.prog w=.ok ((s.toList==s'.toList)&&(a==a')&&(b==b')) w:=by
 have u3:=Tryz.underlying3
 have a3:=Tryz.isAgg3
 have z3:=Tryz.sizeOf3
 have u9:=Tryz.underlying9
 have a9:=Tryz.isAgg9
 have z9:=Tryz.sizeOf9
 have hS:Tryz.prog.underlying 51=some (.struct (Tryz.prog.fieldsOf 51)):=by kernel_rfl
 rw[show(10000:Nat)=9999+1 from rfl,run_equalIn_agg w 9999 51 _ _ hS (by kernel_rfl)]
 simp only[Program.fieldsOf,Tryz.underlying51]
 go_simp
 by_cases h0:s.toList=s'.toList <;> by_cases h1:a=a' <;> by_cases h2:b=b' <;> simp[h0,h1,h2]
theorem zj3 {x y:Gm.Tm} (hx:K.Tx x.nm) (hy:K.Tx y.nm):(((K.str x.nm).toList==(K.str y.nm).toList)&&(x.lv==y.lv)&&(x.wy==y.wy))=eqb x y:=by
 rw[K.eqB hx hy]
 by_cases h:x=y
 ·subst h;rw[za9 rfl];simp
 ·rw[zeA h]
  rw[Bool.and_eq_false_iff,Bool.and_eq_false_iff]
  by_cases h1:x.nm=y.nm
  ·by_cases h2:x.lv=y.lv
   ·by_cases h3:x.wy=y.wy
    ·exact absurd (by cases x;cases y;simp_all) h
    ·exact .inr (by simpa using h3)
   ·exact .inl (.inr (by simpa using h2))
  ·exact .inl (.inl (by simpa using h1))
def zaX {α:Type} (xs ys:List α) (k:Nat):Prop:=xs.take k=ys.take k
theorem zaX.zero {α:Type} (xs ys:List α):zaX xs ys 0:=rfl
theorem zaX.next {α:Type} {xs ys:List α} {k:Nat} (h:zaX xs ys k) (h1:k<xs.length) (h2:k<ys.length) (e:xs[k]=ys[k]):zaX xs ys (k+1):=by
 unfold zaX at *
 rw[List.take_succ_eq_append_getElem h1,List.take_succ_eq_append_getElem h2,h,e]
theorem zaX.all {α:Type} {xs ys:List α} {k:Nat} (h:zaX xs ys k) (hk:k=xs.length) (hl:xs.length=ys.length):eqb xs ys=true:=by
 unfold zaX at h
 rw[hk,List.take_length,hl,List.take_length]at h
 exact za9 h
theorem zbQ {α:Type} {xs ys:List α} {k:Nat} (h1:k<xs.length) (h2:k<ys.length) (e:¬xs[k]=ys[k]):eqb xs ys=false:=zeA fun h=>e (by subst h;rfl)
theorem zbz {α:Type} {xs ys:List α} (h:¬xs.length=ys.length):eqb xs ys=false:=zeA fun e=>h (by rw[e])
noncomputable def Gm.same (G H:Gm.Gr):Bool:=eqb G.ts H.ts&&eqb G.ns H.ns&&eqb G.rs H.rs&&eqb G.st H.st
theorem Gm.same_self (G:Gm.Gr):Gm.same G G=true:=by
 unfold Gm.same
 rw[za9 rfl,za9 rfl,za9 rfl,za9 rfl];rfl
theorem zdH (w:World) (o o':Obj) (n:Nat):(((w.alloc o).alloc o').drewN n).heap[w.heap.size]?=some o:=by
 show((w.alloc o).alloc o').heap[w.heap.size]?=some o
 rw[Below.heap_alloc _ _ _ (by simp)]
 exact heap_alloc_new w o
theorem zdG (w:World) (o o':Obj) (n:Nat):(((w.alloc o).alloc o').drewN n).heap[w.heap.size+1]?=some o':=by
 have:=heap_alloc_new (w.alloc o) o'
 simpa[World.drewN] using this
def Two (w:World) (a b:Array Value) (wr:World):Prop:=Below (w.heap.size+2) ((w.alloc (.cells a 26)).alloc (.cells b 26)) wr
theorem Two.start (w:World) (a b:Array Value):Two w a b ((w.alloc (.cells a 26)).alloc (.cells b 26)):=Below.refl _ _
theorem Two.size {w wr:World} {a b:Array Value} (h:Two w a b wr):w.heap.size+2≤wr.heap.size:=by have:=Below.size h;simpa using this
theorem Two.below {w wr:World} {a b:Array Value} (h:Two w a b wr):Below w.heap.size w wr:=(((Below.refl w.heap.size w).alloc (Nat.le_refl _) _).alloc (by simp) _).trans (Below.mono h (by omega))
theorem Two.on {w wr wt:World} {a b:Array Value} (h:Two w a b wr) (k:Below wr.heap.size wr wt):Two w a b wt:=Below.trans h (k.mono h.size)
theorem Two.drewN {w wr:World} {a b:Array Value} (h:Two w a b wr) (n:Nat):Two w a b (wr.drewN n):=aB h n
theorem Two.drew {w wr:World} {a b:Array Value} (h:Two w a b wr):Two w a b wr.drew:=aB h 1
theorem Two.alloc {w wr:World} {a b:Array Value} (h:Two w a b wr) (o:Obj):Two w a b (wr.alloc o):=Below.alloc h h.size o
theorem Two.c0 {w wr:World} {a b:Array Value} (h:Two w a b wr) (j:Nat) (u:Value) (hj:a[j]?=some u):wr.cell? ⟨w.heap.size,j,none⟩=some u:=by
 have b0:=(Below.block h w.heap.size (by omega)).trans (zdH w _ _ 0)
 exact(cell_of_row wr _ j _ _ _ b0).trans hj
theorem Two.c1 {w wr:World} {a b:Array Value} (h:Two w a b wr) (j:Nat) (u:Value) (hj:b[j]?=some u):wr.cell? ⟨w.heap.size+1,j,none⟩=some u:=by
 have b0:=(Below.block h (w.heap.size+1) (by omega)).trans (zdG w _ _ 0)
 exact(cell_of_row wr _ j _ _ _ b0).trans hj
theorem zci (v u:Value) (G H:Gm.Gr) (B B':Nat) (w:World) (hg:bC w B v G) (hh:bC w B' u H) (fg:Gm.Fit G) (fh:Gm.Fit H) (hB:B≤w.heap.size) (hB':B'≤w.heap.size) :
  Calls Tryz.prog 13 #[v,u] w fun e w'=>e=.returned (.bool (Gm.same G H))∧Below w.heap.size w w':=by
 have HB0:=aA (fun o o'=>((Below.refl w.heap.size w).alloc (Nat.le_refl _) o).alloc (by simp) o')
 obtain⟨AT,cT,AN,cN,AR,cR,rfl,⟨hlT,hmT⟩,⟨hlN,hmN⟩,⟨hlR,hmR⟩,ht,hn,hr⟩:=hg
 obtain⟨BT,dT,BN,dN,BR,dR,rfl,_,_,_,gt,gn,gr⟩:=hh
 by_cases h1:G.ts.length=H.ts.length
 case neg =>
  have HE:Hid (Gm.same G H=false):=aA (by unfold Gm.same;rw[zbz h1];rfl)
  have h1':((G.ts.length:Int) != (H.ts.length:Int))=true:=by simp;omega
  rw[HE.out]
  clear ht hn hr gt gn gr hlT hmT hlN hmN hlR hmR fg fh hB hB' h1
  go_enter Tryz.func13,Tryz.ntmps13
  go_wp2
  go_ret
  exact⟨rfl,HB0.out _ _⟩
 by_cases h2:G.ns.length=H.ns.length
 case neg =>
  have HE:Hid (Gm.same G H=false):=aA (by unfold Gm.same;rw[zbz h2];simp)
  have h1':((G.ts.length:Int) != (H.ts.length:Int))=false:=by simp;omega
  have h2':((G.ns.length:Int) != (H.ns.length:Int))=true:=by simp;omega
  rw[HE.out]
  clear ht hn hr gt gn gr hlT hmT hlN hmN hlR hmR fg fh hB hB' h1 h2
  go_enter Tryz.func13,Tryz.ntmps13
  go_wp2
  go_ret
  exact⟨rfl,HB0.out _ _⟩
 by_cases h3:G.rs.length=H.rs.length
 case neg =>
  have HE:Hid (Gm.same G H=false):=aA (by unfold Gm.same;rw[zbz h3];simp)
  have h1':((G.ts.length:Int) != (H.ts.length:Int))=false:=by simp;omega
  have h2':((G.ns.length:Int) != (H.ns.length:Int))=false:=by simp;omega
  have h3':((G.rs.length:Int) != (H.rs.length:Int))=true:=by simp;omega
  rw[HE.out]
  clear ht hn hr gt gn gr hlT hmT hlN hmN hlR hmR fg fh hB hB' h1 h2 h3
  go_enter Tryz.func13,Tryz.ntmps13
  go_wp2
  go_ret
  exact⟨rfl,HB0.out _ _⟩
 by_cases h4:G.st=H.st
 case neg =>
  have HE:Hid (Gm.same G H=false):=aA (by unfold Gm.same;rw[zeA h4];simp)
  have h1':((G.ts.length:Int) != (H.ts.length:Int))=false:=by simp;omega
  have h2':((G.ns.length:Int) != (H.ns.length:Int))=false:=by simp;omega
  have h3':((G.rs.length:Int) != (H.rs.length:Int))=false:=by simp;omega
  have h4':(G.st != H.st)=true:=by simpa using h4
  rw[HE.out]
  clear ht hn hr gt gn gr hlT hmT hlN hmN hlR hmR fg fh hB hB' h1 h2 h3 h4
  go_enter Tryz.func13,Tryz.ntmps13
  go_wp2
  go_ret
  exact⟨rfl,HB0.out _ _⟩
 have h1':((G.ts.length:Int) != (H.ts.length:Int))=false:=by simp;omega
 have h2':((G.ns.length:Int) != (H.ns.length:Int))=false:=by simp;omega
 have h3':((G.rs.length:Int) != (H.rs.length:Int))=false:=by simp;omega
 have h4':(G.st != H.st)=false:=by simpa using h4
 have HES:Hid (Gm.same G H=(eqb G.ts H.ts&&eqb G.ns H.ns&&eqb G.rs H.rs)):=aA (by unfold Gm.same;rw[za9 h4];simp)
 have HT:=aA ht
 have HN:=aA hn
 have HR:=aA hr
 have GT:=aA gt
 have GN:=aA gn
 have GR:=aA gr
 have FT:=aA (fun i (h:i<G.ts.length)=>(fg.t _ (List.getElem_mem h)).1)
 have FT':=aA (fun i (h:i<H.ts.length)=>(fh.t _ (List.getElem_mem h)).1)
 have FN:=aA (fun i (h:i<G.ns.length)=>fg.n _ (List.getElem_mem h))
 have FN':=aA (fun i (h:i<H.ns.length)=>fh.n _ (List.getElem_mem h))
 have L1:=aA h1
 have L2:=aA h2
 have L3:=aA h3
 have hs0:=Two.start w #[.slice AT G.ts.length cT,.slice AN G.ns.length cN,.slice AR G.rs.length cR,.int .i64 G.st] #[.slice BT H.ts.length dT,.slice BN H.ns.length dN,.slice BR H.rs.length dR,.int .i64 H.st]
 have HS0:=aA hs0
 clear ht hn hr gt gn gr fg fh h1 h2 h3 h4 HB0 hs0
 go_enter Tryz.func13,Tryz.ntmps13
 go_wp2
 go_loopw [5] (fun vi wr=>∃(k:Nat),k≤G.ts.length∧vi=.int .i64 k∧zaX G.ts H.ts k∧Two w #[.slice AT G.ts.length cT,.slice AN G.ns.length cN,.slice AR G.rs.length cR,.int .i64 G.st] #[.slice BT H.ts.length dT,.slice BN H.ns.length dN,.slice BR H.rs.length dR,.int .i64 H.st] wr) (fun vi _=>G.ts.length-(intOf vi).toNat)
 case atStart=>exact⟨0,Nat.zero_le _,rfl,zaX.zero _ _,HS0.out⟩
 case round =>
  obtain⟨k,hk,rfl,ha,hb⟩:=hrel
  have HA:=aA ha
  have HB:=aA hb
  have q00:=hb.c0 0 _ rfl
  have q10:=hb.c1 0 _ rfl
  have q01:=hb.c0 1 _ rfl
  have hz:=hb.size
  have hbw:=hb.below
  clear ha hb
  by_cases hlt:k<G.ts.length
  ·have hlt2:k<H.ts.length:=by have:=L1.out;omega
   clear q01
   obtain⟨ga,oa,rfl,hga,ca⟩:=HT.out (by omega)
   obtain⟨gb,ob,rfl,hgb,cb⟩:=GT.out (by omega)
   have a0:=(hbw.cell (p:=⟨ga,oa+k*3,none⟩) (Nat.lt_of_lt_of_le hga hB)).trans (ca k hlt).1
   have a1:=(hbw.cell (p:=⟨ga,oa+k*3+1,none⟩) (Nat.lt_of_lt_of_le hga hB)).trans (ca k hlt).2.1
   have a2:=(hbw.cell (p:=⟨ga,oa+k*3+2,none⟩) (Nat.lt_of_lt_of_le hga hB)).trans (ca k hlt).2.2
   have b0:=(hbw.cell (p:=⟨gb,ob+k*3,none⟩) (Nat.lt_of_lt_of_le hgb hB')).trans (cb k hlt2).1
   have b1:=(hbw.cell (p:=⟨gb,ob+k*3+1,none⟩) (Nat.lt_of_lt_of_le hgb hB')).trans (cb k hlt2).2.1
   have b2:=(hbw.cell (p:=⟨gb,ob+k*3+2,none⟩) (Nat.lt_of_lt_of_le hgb hB')).trans (cb k hlt2).2.2
   have hE0:=zj3 (FT.out k hlt) (FT'.out k hlt2)
   have E:=fun w=>zj4 (K.str G.ts[k].nm) (K.str H.ts[k].nm) G.ts[k].lv H.ts[k].lv G.ts[k].wy H.ts[k].wy w
   rw[hE0]at E
   have hga':ga<wr.heap.size:=by omega
   have hgb':gb<wr.heap.size:=by omega
   have kk0:(0:Int)≤(k:Int):=by omega
   have kk1:(k:Int)<(G.ts.length:Int):=by omega
   have kk2:(k:Int)<(H.ts.length:Int):=by omega
   clear hE0 ca cb hbw HT GT FT FT'
   by_cases hxy:G.ts[k]=H.ts[k]
   ·have HX:Hid (zaX G.ts H.ts (k+1)):=aA (HA.out.next hlt hlt2 hxy)
    rw[za9 hxy]at E
    clear hxy
    generalize K.str G.ts[k].nm=x0 at *
    generalize K.str H.ts[k].nm=y0 at *
    generalize G.ts[k].lv=x1 at *
    generalize H.ts[k].lv=y1 at *
    generalize G.ts[k].wy=x2 at *
    generalize H.ts[k].wy=y2 at *
    go_wp2_with fail
    go_quiet (fail)
    go_wp2
    go_roundw
    case rel=>exact⟨k+1,hlt,by go_num,HX.out,HB.out.drewN _⟩
    case measure=>simp[intOf];omega
   ·have HX:Hid (Gm.same G H=false):=aA (by rw[HES.out,zbQ hlt hlt2 hxy];rfl)
    rw[zeA hxy]at E
    clear hxy
    generalize K.str G.ts[k].nm=x0 at *
    generalize K.str H.ts[k].nm=y0 at *
    generalize G.ts[k].lv=x1 at *
    generalize H.ts[k].lv=y1 at *
    generalize G.ts[k].wy=x2 at *
    generalize H.ts[k].wy=y2 at *
    go_wp2_with fail
    go_quiet (fail)
    go_wp2
    go_ret
    exact⟨aG HX.out.symm,(HB.out.drewN _).below⟩
  ·obtain rfl:k=G.ts.length:=by omega
   have HEE:Hid (Gm.same G H=(eqb G.ns H.ns&&eqb G.rs H.rs)):=aA (by rw[HES.out,HA.out.all rfl L1.out];rfl)
   clear hbw HES hk
   go_wp2
   go_loopw [6] (fun vi wr=>∃(k:Nat),k≤G.ns.length∧vi=.int .i64 k∧zaX G.ns H.ns k∧Two w #[.slice AT G.ts.length cT,.slice AN G.ns.length cN,.slice AR G.rs.length cR,.int .i64 G.st] #[.slice BT H.ts.length dT,.slice BN H.ns.length dN,.slice BR H.rs.length dR,.int .i64 H.st] wr) (fun vi _=>G.ns.length-(intOf vi).toNat)
   case atStart=>exact⟨0,Nat.zero_le _,rfl,zaX.zero _ _,HB.out⟩
   case round =>
    clear q00 q10 q01 hz HB
    obtain⟨k,hk,rfl,ha,hb⟩:=hrel
    have HA2:=aA ha
    have HB:=aA hb
    have q01:=hb.c0 1 _ rfl
    have q11:=hb.c1 1 _ rfl
    have q02:=hb.c0 2 _ rfl
    have hz:=hb.size
    have hbw:=hb.below
    clear ha hb
    by_cases hlt:k<G.ns.length
    ·have hlt2:k<H.ns.length:=by have:=L2.out;omega
     clear q02
     obtain⟨ga,oa,rfl,hga,ca⟩:=HN.out (by omega)
     obtain⟨gb,ob,rfl,hgb,cb⟩:=GN.out (by omega)
     have a0:=(hbw.cell (p:=⟨ga,oa+k,none⟩) (Nat.lt_of_lt_of_le hga hB)).trans (ca k hlt)
     have b0:=(hbw.cell (p:=⟨gb,ob+k,none⟩) (Nat.lt_of_lt_of_le hgb hB')).trans (cb k hlt2)
     have E:=K.eqB (FN.out k hlt) (FN'.out k hlt2)
     have hga':ga<wr.heap.size:=by omega
     have hgb':gb<wr.heap.size:=by omega
     have kk0:(0:Int)≤(k:Int):=by omega
     have kk1:(k:Int)<(G.ns.length:Int):=by omega
     have kk2:(k:Int)<(H.ns.length:Int):=by omega
     clear ca cb hbw HN GN FN FN'
     by_cases hxy:G.ns[k]=H.ns[k]
     ·have HX:Hid (zaX G.ns H.ns (k+1)):=aA (HA2.out.next hlt hlt2 hxy)
      rw[decide_eq_true hxy]at E
      have E':((K.str G.ns[k]).toList != (K.str H.ns[k]).toList)=false:=by rw[bne,E];rfl
      clear hxy
      generalize K.str G.ns[k]=x0 at *
      generalize K.str H.ns[k]=y0 at *
      go_wp2_with fail
      go_quiet (fail)
      go_wp2
      go_roundw
      case rel=>exact⟨k+1,hlt,by go_num,HX.out,HB.out.drewN _⟩
      case measure=>simp[intOf];omega
     ·have HX:Hid (Gm.same G H=false):=aA (by rw[HEE.out,zbQ hlt hlt2 hxy];rfl)
      rw[decide_eq_false hxy]at E
      have E':((K.str G.ns[k]).toList != (K.str H.ns[k]).toList)=true:=by rw[bne,E];rfl
      clear hxy
      generalize K.str G.ns[k]=x0 at *
      generalize K.str H.ns[k]=y0 at *
      go_wp2_with fail
      go_quiet (fail)
      go_wp2
      go_ret
      exact⟨aG HX.out.symm,(HB.out.drewN _).below⟩
    ·obtain rfl:k=G.ns.length:=by omega
     have HE3:Hid (Gm.same G H=eqb G.rs H.rs):=aA (by rw[HEE.out,HA2.out.all rfl L2.out];rfl)
     clear hbw HEE hk
     go_wp2
     go_loopw [7] (fun vi wr=>∃(k:Nat),k≤G.rs.length∧vi=.int .i64 k∧zaX G.rs H.rs k∧Two w #[.slice AT G.ts.length cT,.slice AN G.ns.length cN,.slice AR G.rs.length cR,.int .i64 G.st] #[.slice BT H.ts.length dT,.slice BN H.ns.length dN,.slice BR H.rs.length dR,.int .i64 H.st] wr) (fun vi _=>G.rs.length-(intOf vi).toNat)
     case atStart=>exact⟨0,Nat.zero_le _,rfl,zaX.zero _ _,HB.out⟩
     case round =>
      clear q01 q11 q02 hz HB
      obtain⟨k,hk,rfl,ha,hb⟩:=hrel
      have HA3:=aA ha
      have HB:=aA hb
      have q02:=hb.c0 2 _ rfl
      have q12:=hb.c1 2 _ rfl
      have hz:=hb.size
      have hbw:=hb.below
      clear ha hb
      by_cases hlt:k<G.rs.length
      ·have hlt2:k<H.rs.length:=by have:=L3.out;omega
       obtain⟨ga,oa,rfl,hga,ca⟩:=HR.out (by omega)
       obtain⟨gb,ob,rfl,hgb,cb⟩:=GR.out (by omega)
       obtain⟨a0,⟨Aa,cca,a1,_,_,ra⟩,a2⟩:=ca k hlt
       obtain⟨b0,⟨Ab,ccb,b1,_,_,rb⟩,b2⟩:=cb k hlt2
       have hls:G.rs[k].r.length≤9223372036854775807:=by omega
       have hls2:H.rs[k].r.length≤9223372036854775807:=by omega
       have a0:=(hbw.cell (p:=⟨ga,oa+k*3,none⟩) (Nat.lt_of_lt_of_le hga hB)).trans a0
       have a1:=(hbw.cell (p:=⟨ga,oa+k*3+1,none⟩) (Nat.lt_of_lt_of_le hga hB)).trans a1
       have a2:=(hbw.cell (p:=⟨ga,oa+k*3+2,none⟩) (Nat.lt_of_lt_of_le hga hB)).trans a2
       have b0:=(hbw.cell (p:=⟨gb,ob+k*3,none⟩) (Nat.lt_of_lt_of_le hgb hB')).trans b0
       have b1:=(hbw.cell (p:=⟨gb,ob+k*3+1,none⟩) (Nat.lt_of_lt_of_le hgb hB')).trans b1
       have b2:=(hbw.cell (p:=⟨gb,ob+k*3+2,none⟩) (Nat.lt_of_lt_of_le hgb hB')).trans b2
       have HS:=aA (fun(z:World) (h:Below w.heap.size w z)=>zjk Aa Ab cca ccb G.rs[k].r H.rs[k].r z ((ra.keep fun g o hg=>h.cell (p:=⟨g,o,none⟩) (Nat.lt_of_lt_of_le hg hB)).more (Nat.le_trans hB h.size)) ((rb.keep fun g o hg=>h.cell (p:=⟨g,o,none⟩) (Nat.lt_of_lt_of_le hg hB')).more (Nat.le_trans hB' h.size)) hls hls2)
       have hga':ga<wr.heap.size:=by omega
       have hgb':gb<wr.heap.size:=by omega
       have kk0:(0:Int)≤(k:Int):=by omega
       have kk1:(k:Int)<(G.rs.length:Int):=by omega
       have kk2:(k:Int)<(H.rs.length:Int):=by omega
       have x8:=aA (hbw)
       have CL:=aA (fun(y:Calm.On wr.heap.size wr) (g j:Nat) (u:Value) (hg:g<wr.heap.size) (h:wr.cell? ⟨g,j,none⟩=some u)=>(y.2.cell (p:=⟨g,j,none⟩) hg).trans h)
       have R0:=fun y:Calm.On wr.heap.size wr=>CL.out y _ _ _ (by omega) q02
       have R1:=fun y:Calm.On wr.heap.size wr=>CL.out y _ _ _ (by omega) q12
       have A0:=fun y:Calm.On wr.heap.size wr=>CL.out y _ _ _ hga' a0
       have A1:=fun y:Calm.On wr.heap.size wr=>CL.out y _ _ _ hga' a1
       have A2:=fun y:Calm.On wr.heap.size wr=>CL.out y _ _ _ hga' a2
       have B0:=fun y:Calm.On wr.heap.size wr=>CL.out y _ _ _ hgb' b0
       have B1:=fun y:Calm.On wr.heap.size wr=>CL.out y _ _ _ hgb' b1
       have B2:=fun y:Calm.On wr.heap.size wr=>CL.out y _ _ _ hgb' b2
       have HZ3:=aA (fun o o':Obj=>aB (((Below.refl wr.heap.size wr).alloc (Nat.le_refl _) o).alloc (by simp) o') 1)
       have HZ1:=aA (fun o:Obj=>(aB (Below.refl wr.heap.size wr) 1).alloc (Nat.le_refl _) o)
       have HZ2:=aA (fun o o':Obj=>((aB (Below.refl wr.heap.size wr) 1).alloc (Nat.le_refl _) o).alloc (by simp) o')
       go_wp2_with fail
       refine Calm.region_tree (fun x=>∃y:Calm.On wr.heap.size wr,x=y.1) (.two [0,1,2,3,4,5,6,7,8,9] 10 (.one [] 11 (.one [] 12 (.one [] 13 (.fin [])))) 11 (.one [] 10 (.one [] 12 (.one [] 13 (.fin []))))) (by kernel_rfl) (by kernel_rfl) (fun _ _ d _ _ h=>by cases d <;> exact h) ⟨⟨wr.drew,aB (Below.refl _ _) 1⟩,rfl⟩ ?_
       clear q02 q12 a0 a1 a2 b0 b1 b2
       simp only[Calm.wpT,Calm.wpSt,Calm.pickOps,List.getElem?_toArray,List.getElem?_cons_zero,List.getElem?_cons_succ]
       repeat (go_big_quiet_step (fail))
       refine wpQuiet_nil ?_
       clear R0 R1 A0 A1 A2 B0 B1 B2
       refine⟨?_,?_⟩
       ·intro KK hKK
        rw[if_pos (by rfl)]
        go_wp2_with fail
        refine hKK _ _ ⟨⟨_,HZ1.out _⟩,rfl⟩ (fun x=>∃y:Calm.On wr.heap.size wr,x=y.1) (fun _ h=>h) ⟨⟨_,HZ1.out _⟩,rfl⟩ ?_
        refine wpQuiet_nil ?_
        intro KK hKK
        rw[if_pos (by rfl)]
        go_wp2_with fail
        refine hKK _ _ ⟨⟨_,HZ2.out _ _⟩,rfl⟩ (fun x=>∃y:Calm.On wr.heap.size wr,x=y.1) (fun _ h=>h) ⟨⟨_,HZ2.out _ _⟩,rfl⟩ ?_
        refine wpQuiet_nil ?_
        intro KK hKK
        rw[if_pos (by rfl)]
        go_wp2_with fail
        refine hKK _ _ ⟨⟨_,HZ3.out _ _⟩,rfl⟩ (fun x=>∃y:Calm.On wr.heap.size wr,x=y.1) (fun _ h=>h) ⟨⟨_,HZ3.out _ _⟩,rfl⟩ ?_
        refine wpQuiet_nil ?_
        intro KK hKK
        rw[if_pos (by rfl)]
        go_wp2_with fail
        refine hKK _ _ ⟨⟨_,HZ3.out _ _⟩,rfl⟩ (fun x=>∃y:Calm.On wr.heap.size wr,x=y.1) (fun _ h=>h) ⟨⟨_,HZ3.out _ _⟩,rfl⟩ ?_
        refine wpQuiet_nil ?_
        have HBZ:=aA (fun o o':Obj=>(HB.out.on (HZ3.out o o')))
        have HBN:=aA (fun(o o':Obj) (n:Nat)=>(HB.out.on (aB (((Below.refl wr.heap.size wr).alloc (Nat.le_refl _) o).alloc (by simp) o') n)))
        clear hKK
        generalize qx:G.rs[k]=x at *
        generalize qy:H.rs[k]=y at *
        have QX:=aA qx
        have QY:=aA qy
        clear qx qy
        by_cases hx1:x.l=y.l
        case neg =>
         have HX:Hid (Gm.same G H=false):=aA (by rw[HE3.out,zbQ hlt hlt2 (fun e=>hx1 (by rw[←QX.out,←QY.out];exact congrArg Gm.Rl.l e))])
         have e1:(x.l != y.l)=true:=by simpa using hx1
         clear hx1
         go_wp2_with fail
         go_ret
         exact⟨aG HX.out.symm,(HBZ.out _ _).below⟩
        have e1:(x.l != y.l)=false:=by simpa using hx1
        by_cases hx2:x.p=y.p
        case neg =>
         have HX:Hid (Gm.same G H=false):=aA (by rw[HE3.out,zbQ hlt hlt2 (fun e=>hx2 (by rw[←QX.out,←QY.out];exact congrArg Gm.Rl.p e))])
         have e2:(x.p != y.p)=true:=by simpa using hx2
         clear hx1 hx2
         go_wp2_with fail
         go_ret
         exact⟨aG HX.out.symm,(HBZ.out _ _).below⟩
        have e2:(x.p != y.p)=false:=by simpa using hx2
        by_cases hx3:x.r=y.r
        ·have HX:Hid (zaX G.rs H.rs (k+1)):=aA (HA3.out.next hlt hlt2 (QX.out.trans (Eq.trans (by cases x;cases y;simp_all) QY.out.symm)))
         rw[decide_eq_true hx3]at HS
         clear hx1 hx2 hx3
         go_wp2_with fail
         refine(HS.out _ (HBZ.out _ _).below).mono ?_;rintro _ w6 ⟨rfl,n6,rfl⟩
         go_wp2
         go_roundw
         case rel=>exact⟨k+1,hlt,by go_num,HX.out,HBN.out _ _ _⟩
         case measure=>simp[intOf];omega
        ·have HX:Hid (Gm.same G H=false):=aA (by rw[HE3.out,zbQ hlt hlt2 (fun e=>hx3 (by rw[←QX.out,←QY.out];exact congrArg Gm.Rl.r e))])
         rw[decide_eq_false hx3]at HS
         clear hx1 hx2 hx3
         go_wp2_with fail
         refine(HS.out _ (HBZ.out _ _).below).mono ?_;rintro _ w6 ⟨rfl,n6,rfl⟩
         go_wp2
         go_ret
         exact⟨aG HX.out.symm,(HBN.out _ _ _).below⟩
       ·intro KK hKK
        rw[if_pos (by rfl)]
        go_wp2_with fail
        refine hKK _ _ ⟨⟨_,HZ1.out _⟩,rfl⟩ (fun x=>∃y:Calm.On wr.heap.size wr,x=y.1) (fun _ h=>h) ⟨⟨_,HZ1.out _⟩,rfl⟩ ?_
        refine wpQuiet_nil ?_
        intro KK hKK
        rw[if_pos (by rfl)]
        go_wp2_with fail
        refine hKK _ _ ⟨⟨_,HZ2.out _ _⟩,rfl⟩ (fun x=>∃y:Calm.On wr.heap.size wr,x=y.1) (fun _ h=>h) ⟨⟨_,HZ2.out _ _⟩,rfl⟩ ?_
        refine wpQuiet_nil ?_
        intro KK hKK
        rw[if_pos (by rfl)]
        go_wp2_with fail
        refine hKK _ _ ⟨⟨_,HZ3.out _ _⟩,rfl⟩ (fun x=>∃y:Calm.On wr.heap.size wr,x=y.1) (fun _ h=>h) ⟨⟨_,HZ3.out _ _⟩,rfl⟩ ?_
        refine wpQuiet_nil ?_
        intro KK hKK
        rw[if_pos (by rfl)]
        go_wp2_with fail
        refine hKK _ _ ⟨⟨_,HZ3.out _ _⟩,rfl⟩ (fun x=>∃y:Calm.On wr.heap.size wr,x=y.1) (fun _ h=>h) ⟨⟨_,HZ3.out _ _⟩,rfl⟩ ?_
        refine wpQuiet_nil ?_
        have HBZ:=aA (fun o o':Obj=>(HB.out.on (HZ3.out o o')))
        have HBN:=aA (fun(o o':Obj) (n:Nat)=>(HB.out.on (aB (((Below.refl wr.heap.size wr).alloc (Nat.le_refl _) o).alloc (by simp) o') n)))
        clear hKK
        generalize qx:G.rs[k]=x at *
        generalize qy:H.rs[k]=y at *
        have QX:=aA qx
        have QY:=aA qy
        clear qx qy
        by_cases hx1:x.l=y.l
        case neg =>
         have HX:Hid (Gm.same G H=false):=aA (by rw[HE3.out,zbQ hlt hlt2 (fun e=>hx1 (by rw[←QX.out,←QY.out];exact congrArg Gm.Rl.l e))])
         have e1:(x.l != y.l)=true:=by simpa using hx1
         clear hx1
         go_wp2_with fail
         go_ret
         exact⟨aG HX.out.symm,(HBZ.out _ _).below⟩
        have e1:(x.l != y.l)=false:=by simpa using hx1
        by_cases hx2:x.p=y.p
        case neg =>
         have HX:Hid (Gm.same G H=false):=aA (by rw[HE3.out,zbQ hlt hlt2 (fun e=>hx2 (by rw[←QX.out,←QY.out];exact congrArg Gm.Rl.p e))])
         have e2:(x.p != y.p)=true:=by simpa using hx2
         clear hx1 hx2
         go_wp2_with fail
         go_ret
         exact⟨aG HX.out.symm,(HBZ.out _ _).below⟩
        have e2:(x.p != y.p)=false:=by simpa using hx2
        by_cases hx3:x.r=y.r
        ·have HX:Hid (zaX G.rs H.rs (k+1)):=aA (HA3.out.next hlt hlt2 (QX.out.trans (Eq.trans (by cases x;cases y;simp_all) QY.out.symm)))
         rw[decide_eq_true hx3]at HS
         clear hx1 hx2 hx3
         go_wp2_with fail
         refine(HS.out _ (HBZ.out _ _).below).mono ?_;rintro _ w6 ⟨rfl,n6,rfl⟩
         go_wp2
         go_roundw
         case rel=>exact⟨k+1,hlt,by go_num,HX.out,HBN.out _ _ _⟩
         case measure=>simp[intOf];omega
        ·have HX:Hid (Gm.same G H=false):=aA (by rw[HE3.out,zbQ hlt hlt2 (fun e=>hx3 (by rw[←QX.out,←QY.out];exact congrArg Gm.Rl.r e))])
         rw[decide_eq_false hx3]at HS
         clear hx1 hx2 hx3
         go_wp2_with fail
         refine(HS.out _ (HBZ.out _ _).below).mono ?_;rintro _ w6 ⟨rfl,n6,rfl⟩
         go_wp2
         go_ret
         exact⟨aG HX.out.symm,(HBN.out _ _ _).below⟩
      ·obtain rfl:k=G.rs.length:=by omega
       have HX:Hid (Gm.same G H=true):=aA (by rw[HE3.out,HA3.out.all rfl L3.out])
       go_wp2
       go_ret
       exact⟨aG HX.out.symm,HB.out.below⟩
end Go.Proofs.YtkfelkpilaipnaaGreatDoor
namespace Go.Proofs.YtkfelkpilaipnaaGreatDoor.RowKit
open Go.ChangeShapes Go.WideShapes Go.ChangeAt Go.RowKit
theorem own:ownKnob Tryz.prog.godebug=none:=by kernel_rfl
theorem laidOut:laidOutB Tryz.prog=true:=by kernel_rfl
def LT:List (String×DataW Unit):=[("gerund/crc.fours",Rows.laid_gerund_crc_fours)]
theorem door_met (os:Os) (args:Array Value):laidMetH Tryz.prog LT ((World.doorLaid Tryz.prog 400 os).forCall (fun _ _=>0) ⟨#[],args,[]⟩).memory :=
 laidMetH_of_parts3 (fuel:=8) (laidMet_of_run' 8 (by kernel_rfl) (by kernel_rfl)) (by kernel_rfl) (by kernel_rfl)
theorem zli {H:Type}:(Rows.laid_gerund_crc_fours:DataW H)=Lib.tabData .u32 (K.fours.map Int.ofNat):=rfl
theorem tab0 {W:World} (h:laidMetH Tryz.prog LT W):za1 W:=by
 rw[MakeChecks.laidMetH_plain _ _ _ (by kernel_rfl)]at h
 obtain⟨ps,⟨g0,t0,cs0,f0,p0,q0,hg0,ht0,hv0,hd0,_,_⟩,_,_⟩:=h
 have hgn:Tryz.prog.globalNamed "gerund/crc.fours" = some 0:=by kernel_rfl
 have hgt:(Tryz.prog.globals[0]?).map (·.type)=some 115:=by kernel_rfl
 obtain rfl:=Option.some.inj (hgn.symm.trans hg0)
 obtain rfl:=Option.some.inj (hgt.symm.trans ht0)
 unfold za1 Lib.TabIs
 rw[zli]at hd0
 rw[hv0,←Lib.cells_of_tab Tryz.underlying115 Tryz.underlying33 (by kernel_rfl) (by kernel_rfl) hd0]
section
variable {H:Type} {enc:TypeId×Value→H}
theorem tied_shaped {C:Checked} {os:Os} {f:FuncId} {fn:Func} {s:ChangeSpec} {X:World→Prop} {conds:List PathCond} {apart fresh handsOn again:Bool}
  (hX:∀(w w':World),w.heap=w'.heap→X w→X w') (own:ownKnob C.prog.godebug=none) (started:os.Started) (noInit:C.prog.inits.idxOf? f=none) (hfn:C.prog.funcs[f]?=some fn)
  (wit:∃(w:World) (tape:Tape) (i:Input),w.os=os∧(w.forCall tape i).Shaped C.prog∧i.vars=[]∧Input.okWide C.prog (w.forCall tape i) .any w.heap.size f i ∧
   ((s.pre enc C.prog fn conds apart (w.forCall tape i).memory i.args∧X (w.forCall tape i).memory)∧sizedMet enc C.prog fn (OpenSpec.ofChange s) apart (w.forCall tape i).memory i.args)∧({}:Assume).holds C.prog (lone (Frame.enter C.prog f i.args .normal) [] (w.forCall tape i)))
  (body:∀(W:World) (base:Nat) (args:Array Value) (ds gs:List (DataW H)) (before:List MemPlace),
   (∀(j:Nat) t v,fn.params[j]?=some t→args[j]?=some v→Value.okWide C.prog W .any base t v)→DataW.Whole enc C.prog fn.params.toList s.vars apart W args.toList ds gs before →
   (DataW.weightsEach C.prog (fn.params.toList++s.plain.varTypes C.prog) (ds++gs)).all (·≤reachBytes)=true→X W→W.ShapedOpen C.prog →
   Calls C.prog f args W fun e W'=>∃v,e=.returned v∧s.post enc C.prog fn apart fresh handsOn again W args v W') :
  ReturnsInHanded {} C os f .any (fun w args=>(s.pre enc C.prog fn conds apart w args∧X w)∧sizedMet enc C.prog fn (OpenSpec.ofChange s) apart w args) (s.post enc C.prog fn apart fresh handsOn again):=by
 refine returnsInHanded_of_calls own started noInit wit ?_
 rintro w tape i _ hsh _ ⟨_,_,_,fn',hfn',_,_,_,_,hval⟩ ⟨⟨⟨ds,gs,before,hw,_⟩,hx⟩,hz⟩ _
 obtain rfl:fn'=fn:=Option.some.inj (hfn'.symm.trans hfn)
 refine(body (w.forCall tape i) w.heap.size i.args ds gs before hval (DataW.Whole.of_heap (w':=w.forCall tape i) (by rfl) hw) (hz.weights hw) (hX _ _ (by rfl) hx) hsh).mono fun e W' ⟨v,he,hp⟩=>?_
 subst he
 exact ChangeSpec.post_blind hp
end
end Go.Proofs.YtkfelkpilaipnaaGreatDoor.RowKit
