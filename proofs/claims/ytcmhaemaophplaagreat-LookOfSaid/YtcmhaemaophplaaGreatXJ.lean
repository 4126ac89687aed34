/- Part of the proofs over this program: CfgSame2, TrimReduce, AuFn, AuWalk, AuWalk2, LookE, LookF, WordsU, SetW, ApQ, ItE, RowM, MapU, LkFn. -/
import Derived.Laws.BitsAllLaws
import Derived.Laws.Shifts
import Derived.Maps.Keyed
import Derived.DeepKeys4
import Derived.Test.YtcmhaemaophplaaGreatXI
set_option linter.all false
namespace Go
def EA:=@Option.isNone_iff_eq_none
def DS:=@Go.u32_or_nat
def El:=@Array.getElem?_toList
end Go
open Go.RowKit Go.Proofs.Tryz
set_option maxRecDepth 100000
set_option maxHeartbeats 40000000
variable {A:Option Go.Addr} {B B' N b base g i k n q:Nat} {E:List (List (Int×Int))} {G:Go.Proofs.YtcmhaemaophplaaGreat.Gm.Gr} {ls zs:List Int} {ops:Array Go.Oper} {p:Go.Addr} {s:Int} {w w' wr:Go.World}
namespace Go.Proofs.YtcmhaemaophplaaGreat
noncomputable def Gm.same (G H:Gm.Gr):Bool:=jj G.ts H.ts&&jj G.ns H.ns&&jj G.rs H.rs&&jj G.st H.st
theorem Gm.lU (G:Gm.Gr):Gm.same G G=true:=by
 unfold Gm.same;rw[pk rfl,pk rfl,pk rfl,pk rfl];rfl
theorem JC (w:World) (o o':Obj) (n:Nat):(((w.alloc o).alloc o').drewN n).heap[w.heap.size]?=some o:=by
 show((w.alloc o).alloc o').heap[w.heap.size]?=some o
 rw[Bs _ _ _ (by simp)];exact AG w o
theorem JB (w:World) (o o':Obj) (n:Nat):(((w.alloc o).alloc o').drewN n).heap[w.heap.size+1]?=some o':=by
 have:=AG (w.alloc o) o'
 simpa[World.drewN] using this
theorem O7 (v u:Value) (G H:Gm.Gr) (B B':Nat) (w:World) (hg:aT w B v G) (hh:aT w B' u H) (fg:Gm.Fit G) (fh:Gm.Fit H) (hB:B<=w.heap.size) (d:B'<=w.heap.size) :
  Calls prog 70 #[v,u] w fun e w'=>e=.returned (.bool (Gm.same G H))/\Below w.heap.size w w':=by
 have b:=aA (fun o o'=>((AB w.heap.size w).alloc (Af _) o).alloc (by simp) o');obtain⟨AT,cT,AN,cN,AR,cR,rfl,⟨aa,ab⟩,⟨ac,ad⟩,⟨ae,af⟩,ht,hn,hr⟩:=hg;obtain⟨BT,dT,BN,dN,BR,dR,rfl,_,_,_,gt,gn,gr⟩:=hh;have H1:=aA (fun(x:World) (h:Below w.heap.size w x)=>Pe AT BT cT dT B B' G.ts H.ts x (ht.fp fun g o hg=>h.cell (p:=⟨g,o,none⟩) (Ah hg hB)) (gt.fp fun g o hg=>h.cell (p:=⟨g,o,none⟩) (Ah hg d)) (fun x hx=>(fg.t x hx).1) (fun x hx=>(fh.t x hx).1) (by omega));have H2:=aA (fun(x:World) (h:Below w.heap.size w x)=>Pf AN BN cN dN B B' G.ns H.ns x (hn.fp fun g o hg=>h.cell (p:=⟨g,o,none⟩) (Ah hg hB)) (gn.fp fun g o hg=>h.cell (p:=⟨g,o,none⟩) (Ah hg d)) (fun x hx=>fg.n x hx) (fun x hx=>fh.n x hx) (by omega));have H3:=aA (fun(x:World) (h:Below w.heap.size w x)=>PJ AR BR cR dR B B' G.rs H.rs x (hr.fp fun g o hg=>h.cell (p:=⟨g,o,none⟩) (Ah hg hB)) (gr.fp fun g o hg=>h.cell (p:=⟨g,o,none⟩) (Ah hg d)) (Aj hB h.size) (Aj d h.size) (by omega));have e4:=IM G.st H.st;unfold Gm.same;clear ht hn hr gt gn gr aa ab ac ad ae af fg fh hB d;generalize G.st=st at *;generalize H.st=st' at *;cases q1:jj G.ts H.ts
 ·rw[q1]at H1;clear q1 e4 H2 H3
  go_enter func70,ntmps70
  go_wp2_with fail
  refine(H1.o _ (b.o _ _)).mono ?_;rintro _ w2 ⟨rfl,hd⟩;have HD:=aA ((b.o _ _).trans ((Jx hd).mono (by simp;omega)));clear hd;go_wp2;go_ret
  exact⟨rfl,HD.o⟩
 ·rw[q1]at H1;clear q1;cases q2:jj G.ns H.ns
  ·rw[q2]at H2;clear q2 e4 H3
   go_enter func70,ntmps70
   go_wp2_with fail
   refine(H1.o _ (b.o _ _)).mono ?_;rintro _ w2 ⟨rfl,n1,rfl⟩;go_wp2_with fail
   refine(H2.o _ (aB (b.o _ _) _)).mono ?_;rintro _ w3 ⟨rfl,n2,rfl⟩;go_wp2;go_ret
   exact⟨rfl,aB (b.o _ _) _⟩
  ·rw[q2]at H2;clear q2;cases q3:jj G.rs H.rs
   focus
    rw[q3]at H3;clear q3 e4
   rotate_left
   focus
    rw[q3]at H3;clear q3;generalize jj st st'=b4 at *
   rotate_left
   all_goals
    go_enter func70,ntmps70
    go_wp2_with fail
    refine(H1.o _ (b.o _ _)).mono ?_;rintro _ w2 ⟨rfl,n1,rfl⟩;go_wp2_with fail
    refine(H2.o _ (aB (b.o _ _) _)).mono ?_;rintro _ w3 ⟨rfl,n2,rfl⟩;go_wp2_with fail
    refine(H3.o _ (aB (b.o _ _) _)).mono ?_;rintro _ w4 ⟨rfl,hb⟩;have HD:=aA ((aB (b.o _ _) _).trans (hb.mono (by simp[World.drewN];omega)))
   focus
    clear hb;go_wp2;go_ret
    exact⟨rfl,HD.o⟩
   focus
    have b0:=(hb.block w.heap.size (by simp[World.drewN];omega)).trans (JC w _ _ _);have b1:=(hb.block (w.heap.size+1) (by simp[World.drewN])).trans (JB w _ _ _);have z0:w.heap.size<w4.heap.size:=(Ad.1 b0).1;have z1:w.heap.size+1<w4.heap.size:=(Ad.1 b1).1;have c0:=AF w4 _ 3 _ _ _ b0;have c1:=AF w4 _ 3 _ _ _ b1;clear hb b0 b1;go_wp2;go_ret
    exact⟨aE (by simp),HD.o⟩
def lZ (w:World) (a b:Array Value) (wr:World):Prop:=Below (w.heap.size+2) ((w.alloc (.cells a 26)).alloc (.cells b 26)) wr
theorem lZ.start (w:World) (a b:Array Value):lZ w a b ((w.alloc (.cells a 26)).alloc (.cells b 26)):=AB _ _
theorem lZ.size {w wr:World} {a b:Array Value} (h:lZ w a b wr):w.heap.size+2<=wr.heap.size:=by have:=Below.size h;simpa using this
theorem lZ.below {a b:Array Value} (h:lZ w a b wr):Below w.heap.size w wr:=(((AB w.heap.size w).alloc (Af _) _).alloc (by simp) _).trans (Below.mono h (by omega))
theorem lZ.on {wt:World} {a b:Array Value} (h:lZ w a b wr) (k:Below wr.heap.size wr wt):lZ w a b wt:=Below.trans h (k.mono h.size)
theorem lZ.drewN {a b:Array Value} (h:lZ w a b wr) (n:Nat):lZ w a b (wr.drewN n):=aB h n
theorem lZ.drew {a b:Array Value} (h:lZ w a b wr):lZ w a b wr.drew:=aB h 1
theorem lZ.alloc {w wr:World} {a b:Array Value} (h:lZ w a b wr) (o:Obj):lZ w a b (wr.alloc o):=Below.alloc h h.size o
theorem lZ.c0 {a b:Array Value} (h:lZ w a b wr) (j:Nat) (u:Value) (hj:a[j]?=some u):wr.cell? ⟨w.heap.size,j,none⟩=some u:=by
 have b0:=(Eb h w.heap.size (by omega)).trans (JC w _ _ 0);exact(AF wr _ j _ _ _ b0).trans hj
theorem lZ.c1 {a b:Array Value} (h:lZ w a b wr) (j:Nat) (u:Value) (hj:b[j]?=some u):wr.cell? ⟨w.heap.size+1,j,none⟩=some u:=by
 have b0:=(Eb h (w.heap.size+1) (by omega)).trans (JB w _ _ 0);exact(AF wr _ j _ _ _ b0).trans hj
theorem Kn (v u:Value) (G H:Gm.Gr) (B B':Nat) (w:World) (hg:aT w B v G) (hh:aT w B' u H) (fg:Gm.Fit G) (fh:Gm.Fit H) (hB:B<=w.heap.size) (m:B'<=w.heap.size) :
  Calls prog 13 #[v,u] w fun e w'=>e=.returned (.bool (Gm.same G H))/\Below w.heap.size w w':=by
 have M:=aA (fun o o'=>((AB w.heap.size w).alloc (Af _) o).alloc (by simp) o');obtain⟨AT,cT,AN,cN,AR,cR,rfl,⟨aa,ab⟩,⟨ac,ad⟩,⟨ae,af⟩,ht,hn,hr⟩:=hg;obtain⟨BT,dT,BN,dN,BR,dR,rfl,_,_,_,gt,gn,gr⟩:=hh;by_cases h1:G.ts.length=H.ts.length
 case neg =>
  have HE:Hid (Gm.same G H=false):=aA (by unfold Gm.same;rw[zh h1];rfl);have ag:((G.ts.length:Int) != (H.ts.length:Int))=true:=by simp;omega
  rw[HE.o];clear ht hn hr gt gn gr aa ab ac ad ae af fg fh hB m h1
  go_enter func13,ntmps13
  go_wp2;go_ret
  exact⟨rfl,M.o _ _⟩
 by_cases h2:G.ns.length=H.ns.length
 case neg =>
  have HE:Hid (Gm.same G H=false):=aA (by unfold Gm.same;rw[zh h2];simp);have ag:((G.ts.length:Int) != (H.ts.length:Int))=false:=by simp;omega
  have aj:((G.ns.length:Int) != (H.ns.length:Int))=true:=by simp;omega
  rw[HE.o];clear ht hn hr gt gn gr aa ab ac ad ae af fg fh hB m h1 h2
  go_enter func13,ntmps13
  go_wp2;go_ret
  exact⟨rfl,M.o _ _⟩
 by_cases h3:G.rs.length=H.rs.length
 case neg =>
  have HE:Hid (Gm.same G H=false):=aA (by unfold Gm.same;rw[zh h3];simp);have ag:((G.ts.length:Int) != (H.ts.length:Int))=false:=by simp;omega
  have aj:((G.ns.length:Int) != (H.ns.length:Int))=false:=by simp;omega
  have ao:((G.rs.length:Int) != (H.rs.length:Int))=true:=by simp;omega
  rw[HE.o];clear ht hn hr gt gn gr aa ab ac ad ae af fg fh hB m h1 h2 h3
  go_enter func13,ntmps13
  go_wp2;go_ret
  exact⟨rfl,M.o _ _⟩
 by_cases h4:G.st=H.st
 case neg =>
  have HE:Hid (Gm.same G H=false):=aA (by unfold Gm.same;rw[qF h4];simp);have ag:((G.ts.length:Int) != (H.ts.length:Int))=false:=by simp;omega
  have aj:((G.ns.length:Int) != (H.ns.length:Int))=false:=by simp;omega
  have ao:((G.rs.length:Int) != (H.rs.length:Int))=false:=by simp;omega
  have ay:(G.st != H.st)=true:=by simpa using h4
  rw[HE.o];clear ht hn hr gt gn gr aa ab ac ad ae af fg fh hB m h1 h2 h3 h4
  go_enter func13,ntmps13
  go_wp2;go_ret
  exact⟨rfl,M.o _ _⟩
 have ag:((G.ts.length:Int) != (H.ts.length:Int))=false:=by simp;omega
 have aj:((G.ns.length:Int) != (H.ns.length:Int))=false:=by simp;omega
 have ao:((G.rs.length:Int) != (H.rs.length:Int))=false:=by simp;omega
 have ay:(G.st != H.st)=false:=by simpa using h4
 have ak:Hid (Gm.same G H=(jj G.ts H.ts&&jj G.ns H.ns&&jj G.rs H.rs)):=aA (by unfold Gm.same;rw[pk h4];simp);have HT:=aA ht;have HN:=aA hn;have HR:=aA hr;have GT:=aA gt;have GN:=aA gn;have GR:=aA gr;have FT:=aA (fun i (h:i<G.ts.length)=>(fg.t _ (AE h)).1);have FT':=aA (fun i (h:i<H.ts.length)=>(fh.t _ (AE h)).1);have FN:=aA (fun i (h:i<G.ns.length)=>fg.n _ (AE h));have FN':=aA (fun i (h:i<H.ns.length)=>fh.n _ (AE h));have L1:=aA h1;have L2:=aA h2;have L3:=aA h3;have ap:=lZ.start w #[.slice AT G.ts.length cT,.slice AN G.ns.length cN,.slice AR G.rs.length cR,.int .i64 G.st] #[.slice BT H.ts.length dT,.slice BN H.ns.length dN,.slice BR H.rs.length dR,.int .i64 H.st];have az:=aA ap;clear ht hn hr gt gn gr fg fh h1 h2 h3 h4 M ap
 go_enter func13,ntmps13
 go_wp2;go_loopw [5] (fun vi wr=>∃(k:Nat),k<=G.ts.length/\vi=.int .i64 k/\a8 G.ts H.ts k/\lZ w #[.slice AT G.ts.length cT,.slice AN G.ns.length cN,.slice AR G.rs.length cR,.int .i64 G.st] #[.slice BT H.ts.length dT,.slice BN H.ns.length dN,.slice BR H.rs.length dR,.int .i64 H.st] wr) (fun vi _=>G.ts.length-(intOf vi).toNat)
 case atStart=>exact⟨0,AV _,rfl,a8.zero _ _,az.o⟩
 case round =>
  obtain⟨k,hk,rfl,ha,hb⟩:=hrel;have HA:=aA ha;have HB:=aA hb;have q00:=hb.c0 0 _ rfl;have q10:=hb.c1 0 _ rfl;have q01:=hb.c0 1 _ rfl;have hz:=hb.size;have f:=hb.below;clear ha hb;by_cases hlt:k<G.ts.length
  ·have b:k<H.ts.length:=by have:=L1.o;omega
   clear q01;obtain⟨ga,oa,rfl,C,ca⟩:=HT.o (by omega);obtain⟨gb,ob,rfl,D,cb⟩:=GT.o (by omega);have a0:=(f.cell (p:=⟨ga,oa+k*3,none⟩) (Ah C hB)).trans (ca k hlt).1;have a1:=(f.cell (p:=⟨ga,oa+k*3+1,none⟩) (Ah C hB)).trans (ca k hlt).2.1;have a2:=(f.cell (p:=⟨ga,oa+k*3+2,none⟩) (Ah C hB)).trans (ca k hlt).2.2;have b0:=(f.cell (p:=⟨gb,ob+k*3,none⟩) (Ah D m)).trans (cb k b).1;have b1:=(f.cell (p:=⟨gb,ob+k*3+1,none⟩) (Ah D m)).trans (cb k b).2.1;have b2:=(f.cell (p:=⟨gb,ob+k*3+2,none⟩) (Ah D m)).trans (cb k b).2.2;have aq:=Lr (FT.o k hlt) (FT'.o k b);have E:=fun w=>Lf (K.str G.ts[k].nm) (K.str H.ts[k].nm) G.ts[k].lv H.ts[k].lv G.ts[k].wy H.ts[k].wy w;rw[aq]at E;have s:ga<wr.heap.size:=by omega
   have A:gb<wr.heap.size:=by omega
   have kk0:(0:Int)<=(k:Int):=by omega
   have kk1:(k:Int)<(G.ts.length:Int):=by omega
   have kk2:(k:Int)<(H.ts.length:Int):=by omega
   clear aq ca cb f HT GT FT FT';by_cases q:G.ts[k]=H.ts[k]
   ·have HX:Hid (a8 G.ts H.ts (k+1)):=aA (HA.o.next hlt b q);rw[pk q]at E;clear q;generalize K.str G.ts[k].nm=x0 at *;generalize K.str H.ts[k].nm=y0 at *;generalize G.ts[k].lv=x1 at *;generalize H.ts[k].lv=y1 at *;generalize G.ts[k].wy=x2 at *;generalize H.ts[k].wy=y2 at *;go_wp2_with fail
    go_quiet (fail)
    go_wp2;go_roundw
    case rel=>exact⟨k+1,hlt,by go_num,HX.o,HB.o.drewN _⟩
    case measure=>simp[intOf];omega
   ·have HX:Hid (Gm.same G H=false):=aA (by rw[ak.o,xt hlt b q];rfl);rw[qF q]at E;clear q;generalize K.str G.ts[k].nm=x0 at *;generalize K.str H.ts[k].nm=y0 at *;generalize G.ts[k].lv=x1 at *;generalize H.ts[k].lv=y1 at *;generalize G.ts[k].wy=x2 at *;generalize H.ts[k].wy=y2 at *;go_wp2_with fail
    go_quiet (fail)
    go_wp2;go_ret
    exact⟨aE HX.o.symm,(HB.o.drewN _).below⟩
  ·obtain rfl:k=G.ts.length:=by omega
   have al:Hid (Gm.same G H=(jj G.ns H.ns&&jj G.rs H.rs)):=aA (by rw[ak.o,HA.o.all rfl L1.o];rfl);clear f ak hk;go_wp2;go_loopw [6] (fun vi wr=>∃(k:Nat),k<=G.ns.length/\vi=.int .i64 k/\a8 G.ns H.ns k/\lZ w #[.slice AT G.ts.length cT,.slice AN G.ns.length cN,.slice AR G.rs.length cR,.int .i64 G.st] #[.slice BT H.ts.length dT,.slice BN H.ns.length dN,.slice BR H.rs.length dR,.int .i64 H.st] wr) (fun vi _=>G.ns.length-(intOf vi).toNat)
   case atStart=>exact⟨0,AV _,rfl,a8.zero _ _,HB.o⟩
   case round =>
    clear q00 q10 q01 hz HB;obtain⟨k,hk,rfl,ha,hb⟩:=hrel;have ar:=aA ha;have HB:=aA hb;have q01:=hb.c0 1 _ rfl;have q11:=hb.c1 1 _ rfl;have q02:=hb.c0 2 _ rfl;have hz:=hb.size;have f:=hb.below;clear ha hb;by_cases hlt:k<G.ns.length
    ·have b:k<H.ns.length:=by have:=L2.o;omega
     clear q02;obtain⟨ga,oa,rfl,C,ca⟩:=HN.o (by omega);obtain⟨gb,ob,rfl,D,cb⟩:=GN.o (by omega);have a0:=(f.cell (p:=⟨ga,oa+k,none⟩) (Ah C hB)).trans (ca k hlt);have b0:=(f.cell (p:=⟨gb,ob+k,none⟩) (Ah D m)).trans (cb k b);have E:=K.E7 (FN.o k hlt) (FN'.o k b);have s:ga<wr.heap.size:=by omega
     have A:gb<wr.heap.size:=by omega
     have kk0:(0:Int)<=(k:Int):=by omega
     have kk1:(k:Int)<(G.ns.length:Int):=by omega
     have kk2:(k:Int)<(H.ns.length:Int):=by omega
     clear ca cb f HN GN FN FN';by_cases q:G.ns[k]=H.ns[k]
     ·have HX:Hid (a8 G.ns H.ns (k+1)):=aA (ar.o.next hlt b q);rw[AQ q]at E;have E':((K.str G.ns[k]).toList != (K.str H.ns[k]).toList)=false:=by rw[bne,E];rfl
      clear q;generalize K.str G.ns[k]=x0 at *;generalize K.str H.ns[k]=y0 at *;go_wp2_with fail
      go_quiet (fail)
      go_wp2;go_roundw
      case rel=>exact⟨k+1,hlt,by go_num,HX.o,HB.o.drewN _⟩
      case measure=>simp[intOf];omega
     ·have HX:Hid (Gm.same G H=false):=aA (by rw[al.o,xt hlt b q];rfl);rw[AM q]at E;have E':((K.str G.ns[k]).toList != (K.str H.ns[k]).toList)=true:=by rw[bne,E];rfl
      clear q;generalize K.str G.ns[k]=x0 at *;generalize K.str H.ns[k]=y0 at *;go_wp2_with fail
      go_quiet (fail)
      go_wp2;go_ret
      exact⟨aE HX.o.symm,(HB.o.drewN _).below⟩
    ·obtain rfl:k=G.ns.length:=by omega
     have ah:Hid (Gm.same G H=jj G.rs H.rs):=aA (by rw[al.o,ar.o.all rfl L2.o];rfl);clear f al hk;go_wp2;go_loopw [7] (fun vi wr=>∃(k:Nat),k<=G.rs.length/\vi=.int .i64 k/\a8 G.rs H.rs k/\lZ w #[.slice AT G.ts.length cT,.slice AN G.ns.length cN,.slice AR G.rs.length cR,.int .i64 G.st] #[.slice BT H.ts.length dT,.slice BN H.ns.length dN,.slice BR H.rs.length dR,.int .i64 H.st] wr) (fun vi _=>G.rs.length-(intOf vi).toNat)
     case atStart=>exact⟨0,AV _,rfl,a8.zero _ _,HB.o⟩
     case round =>
      clear q01 q11 q02 hz HB;obtain⟨k,hk,rfl,ha,hb⟩:=hrel;have au:=aA ha;have HB:=aA hb;have q02:=hb.c0 2 _ rfl;have q12:=hb.c1 2 _ rfl;have hz:=hb.size;have f:=hb.below;clear ha hb;by_cases hlt:k<G.rs.length
      ·have b:k<H.rs.length:=by have:=L3.o;omega
       obtain⟨ga,oa,rfl,C,ca⟩:=HR.o (by omega);obtain⟨gb,ob,rfl,D,cb⟩:=GR.o (by omega);obtain⟨a0,⟨Aa,cca,a1,_,_,ra⟩,a2⟩:=ca k hlt;obtain⟨b0,⟨Ab,ccb,b1,_,_,rb⟩,b2⟩:=cb k b;have a3:G.rs[k].r.length<=9223372036854775807:=by omega
       have am:H.rs[k].r.length<=9223372036854775807:=by omega
       have a0:=(f.cell (p:=⟨ga,oa+k*3,none⟩) (Ah C hB)).trans a0;have a1:=(f.cell (p:=⟨ga,oa+k*3+1,none⟩) (Ah C hB)).trans a1;have a2:=(f.cell (p:=⟨ga,oa+k*3+2,none⟩) (Ah C hB)).trans a2;have b0:=(f.cell (p:=⟨gb,ob+k*3,none⟩) (Ah D m)).trans b0;have b1:=(f.cell (p:=⟨gb,ob+k*3+1,none⟩) (Ah D m)).trans b1;have b2:=(f.cell (p:=⟨gb,ob+k*3+2,none⟩) (Ah D m)).trans b2;have HS:=aA (fun(z:World) (h:Below w.heap.size w z)=>Kw Aa Ab cca ccb G.rs[k].r H.rs[k].r z ((ra.fp fun g o hg=>h.cell (p:=⟨g,o,none⟩) (Ah hg hB)).more (Aj hB h.size)) ((rb.fp fun g o hg=>h.cell (p:=⟨g,o,none⟩) (Ah hg m)).more (Aj m h.size)) a3 am);have s:ga<wr.heap.size:=by omega
       have A:gb<wr.heap.size:=by omega
       have kk0:(0:Int)<=(k:Int):=by omega
       have kk1:(k:Int)<(G.rs.length:Int):=by omega
       have kk2:(k:Int)<(H.rs.length:Int):=by omega
       have x8:=aA (f);have CL:=aA (fun(y:Calm.On wr.heap.size wr) (g j:Nat) (u:Value) (hg:g<wr.heap.size) (h:wr.cell? ⟨g,j,none⟩=some u)=>(y.2.cell (p:=⟨g,j,none⟩) hg).trans h);have R0:=fun y:Calm.On wr.heap.size wr=>CL.o y _ _ _ (by omega) q02;have R1:=fun y:Calm.On wr.heap.size wr=>CL.o y _ _ _ (by omega) q12;have A0:=fun y:Calm.On wr.heap.size wr=>CL.o y _ _ _ s a0;have A1:=fun y:Calm.On wr.heap.size wr=>CL.o y _ _ _ s a1;have A2:=fun y:Calm.On wr.heap.size wr=>CL.o y _ _ _ s a2;have B0:=fun y:Calm.On wr.heap.size wr=>CL.o y _ _ _ A b0;have B1:=fun y:Calm.On wr.heap.size wr=>CL.o y _ _ _ A b1;have B2:=fun y:Calm.On wr.heap.size wr=>CL.o y _ _ _ A b2;have N:=aA (fun o o':Obj=>aB (((AB wr.heap.size wr).alloc (Af _) o).alloc (by simp) o') 1);have av:=aA (fun o:Obj=>(aB (AB wr.heap.size wr) 1).alloc (Af _) o);have aw:=aA (fun o o':Obj=>((aB (AB wr.heap.size wr) 1).alloc (Af _) o).alloc (by simp) o');go_wp2_with fail
       refine Calm.fk (fun x=>∃y:Calm.On wr.heap.size wr,x=y.1) (.two [0,1,2,3,4,5,6,7,8,9] 10 (.one [] 11 (.one [] 12 (.one [] 13 (.fin [])))) 11 (.one [] 10 (.one [] 12 (.one [] 13 (.fin []))))) (by kernel_rfl) (by kernel_rfl) (fun _ _ d _ _ h=>by cases d <;> exact h) ⟨⟨wr.drew,aB (AB _ _) 1⟩,rfl⟩ ?_;clear q02 q12 a0 a1 a2 b0 b1 b2;simp only[Calm.fN,Calm.fv,Calm.fo,Az,Am,Ap];repeat (go_big_quiet_step (fail))
       refine Aw ?_;clear R0 R1 A0 A1 A2 B0 B1 B2;refine⟨?_,?_⟩
       all_goals
        intro KK F;rw[AC (by rfl)];go_wp2_with fail
        refine F _ _ ⟨⟨_,av.o _⟩,rfl⟩ _ (fun _ h=>h) ⟨⟨_,av.o _⟩,rfl⟩ ?_;refine Aw ?_;intro KK F;rw[AC (by rfl)];go_wp2_with fail
        refine F _ _ ⟨⟨_,aw.o _ _⟩,rfl⟩ _ (fun _ h=>h) ⟨⟨_,aw.o _ _⟩,rfl⟩ ?_;refine Aw ?_;intro KK F;rw[AC (by rfl)];go_wp2_with fail
        refine F _ _ ⟨⟨_,N.o _ _⟩,rfl⟩ _ (fun _ h=>h) ⟨⟨_,N.o _ _⟩,rfl⟩ ?_;refine Aw ?_;intro KK F;rw[AC (by rfl)];go_wp2_with fail
        refine F _ _ ⟨⟨_,N.o _ _⟩,rfl⟩ _ (fun _ h=>h) ⟨⟨_,N.o _ _⟩,rfl⟩ ?_;refine Aw ?_;have ai:=aA (fun o o':Obj=>(HB.o.on (N.o o o')));have ax:=aA (fun(o o':Obj) (n:Nat)=>(HB.o.on (aB (((AB wr.heap.size wr).alloc (Af _) o).alloc (by simp) o') n)));clear F;generalize qx:G.rs[k]=x at *;generalize qy:H.rs[k]=y at *;have QX:=aA qx;have QY:=aA qy;clear qx qy;by_cases I:x.l=y.l
        case neg =>
         have HX:Hid (Gm.same G H=false):=aA (by rw[ah.o,xt hlt b (fun e=>I (by rw[<-QX.o,<-QY.o];exact congrArg Gm.Rl.l e))]);have e1:(x.l != y.l)=true:=by simpa using I
         clear I;go_wp2_with fail
         go_ret
         exact⟨aE HX.o.symm,(ai.o _ _).below⟩
        have e1:(x.l != y.l)=false:=by simpa using I
        by_cases J:x.p=y.p
        case neg =>
         have HX:Hid (Gm.same G H=false):=aA (by rw[ah.o,xt hlt b (fun e=>J (by rw[<-QX.o,<-QY.o];exact congrArg Gm.Rl.p e))]);have e2:(x.p != y.p)=true:=by simpa using J
         clear I J;go_wp2_with fail
         go_ret
         exact⟨aE HX.o.symm,(ai.o _ _).below⟩
        have e2:(x.p != y.p)=false:=by simpa using J
        by_cases O:x.r=y.r
        ·have HX:Hid (a8 G.rs H.rs (k+1)):=aA (au.o.next hlt b (QX.o.trans (Eq.trans (by cases x;cases y;simp_all) QY.o.symm)));rw[AQ O]at HS;clear I J O;go_wp2_with fail
         refine(HS.o _ (ai.o _ _).below).mono ?_;rintro _ w6 ⟨rfl,n6,rfl⟩;go_wp2;go_roundw
         case rel=>exact⟨k+1,hlt,by go_num,HX.o,ax.o _ _ _⟩
         case measure=>simp[intOf];omega
        ·have HX:Hid (Gm.same G H=false):=aA (by rw[ah.o,xt hlt b (fun e=>O (by rw[<-QX.o,<-QY.o];exact congrArg Gm.Rl.r e))]);rw[AM O]at HS;clear I J O;go_wp2_with fail
         refine(HS.o _ (ai.o _ _).below).mono ?_;rintro _ w6 ⟨rfl,n6,rfl⟩;go_wp2;go_ret
         exact⟨aE HX.o.symm,(ax.o _ _ _).below⟩
      ·obtain rfl:k=G.rs.length:=by omega
       have HX:Hid (Gm.same G H=true):=aA (by rw[ah.o,au.o.all rfl L3.o]);go_wp2;go_ret
       exact⟨aE HX.o.symm,HB.o.below⟩
def Gm.mO:Gm.Gr:=⟨[],[],[],0⟩
theorem LZ (w:World) (B:Nat):aT w B (.agg #[.slice none 0 0,.slice none 0 0,.slice none 0 0,.int .i64 0]) Gm.mO:=⟨none,0,none,0,none,0,rfl,by simp[Gm.mO],by simp[Gm.mO],by simp[Gm.mO],fun h=>absurd rfl h,fun h=>absurd rfl h,fun h=>absurd rfl h⟩
theorem JU (w:World):(Instr.build 26 #[]).run prog w=.ok (.agg #[.slice none 0 0,.slice none 0 0,.slice none 0 0,.int .i64 0]) w:=EG w 26 _ _ (by kernel_rfl)
noncomputable def Gm.nB (G:Gm.Gr):Int:=if Gm.right G=true then(if Gm.tr (Gm.Gn true G.rs G.st)=true then 0 else 9) else 1
noncomputable def Gm.nV (G:Gm.Gr):Gm.Gr:=if Gm.nB G=0 then Gm.reduce G else Gm.mO
noncomputable def Gm.xL (G:Gm.Gr):List Int:=if Gm.nB G=0 then Gm.kl G G.rs.length else []
theorem Gm.o9 (h:Gm.right G=false):Gm.nB G=1:=by unfold Gm.nB;rw[h];rfl
theorem Gm.lT (h:Gm.right G=true) (k:Gm.tr (Gm.Gn true G.rs G.st)=false):Gm.nB G=9:=by unfold Gm.nB;rw[h,k];rfl
theorem Gm.pa (h:Gm.right G=true) (k:Gm.tr (Gm.Gn true G.rs G.st)=true):Gm.nB G=0:=by unfold Gm.nB;rw[h,k];rfl
def sN (G:Gm.Gr) (w:World) (e:Ending) (w':World):Prop:=∃g A c,e=.returned (.tuple #[g,.slice A (Gm.xL G).length c,.int .i64 (Gm.nB G)])/\aT w' w'.heap.size g (Gm.nV G)/\gd w' w'.heap.size A (Gm.xL G)/\Below w.heap.size w w'
theorem sN.no {er:Int} (h:Gm.nB G=er) (h0:er≠0) (hb:Below w.heap.size w w'):sN G w (.returned (.tuple #[.agg #[.slice none 0 0,.slice none 0 0,.slice none 0 0,.int .i64 0],.slice none 0 0,.int .i64 er])) w':=by
 have hL:Gm.xL G=[]:=by unfold Gm.xL;rw[AI (by rw[h];exact h0)]
 have hG:Gm.nV G=Gm.mO:=by unfold Gm.nV;rw[AI (by rw[h];exact h0)]
 refine⟨_,none,0,by rw[hL,h];rfl,?_,?_,hb⟩
 ·rw[hG];exact LZ _ _
 ·rw[hL];exact gd.nil _ _ _
theorem sN.ok {g:Value} {c:Nat} {ks:List Int} (h:Gm.nB G=0) (hk:ks=Gm.kl G G.rs.length) (hg:aT w' w'.heap.size g (Gm.reduce G)) (hr:gd w' w'.heap.size A ks) (hb:Below w.heap.size w w'):sN G w (.returned (.tuple #[g,.slice A ks.length c,.int .i64 0])) w':=by
 have hL:Gm.xL G=ks:=by unfold Gm.xL;rw[AC h,hk]
 have hG:Gm.nV G=Gm.reduce G:=by unfold Gm.nV;rw[AC h]
 exact⟨g,A,c,by rw[hL,h],by rw[hG];exact hg,by rw[hL];exact hr,hb⟩
theorem M9 (v:Value) (G:Gm.Gr) (B:Nat) (w:World) (hg:aT w B v G) (hf:Gm.Fit G) (hB:B<=w.heap.size) :
  Calls prog 69 #[v] w (sN G w):=by
 have H1:=aA (fun(x:World) (h:Below w.heap.size w x)=>FC v G B x (hg.below h hB) hf (Aj hB h.size));have H2:=aA (fun(x:World) (h:Below w.heap.size w x)=>Hu v G B x (hg.below h hB) hf (Aj hB h.size));have H3:=aA (fun(q:Gm.right G=true) (x:World) (h:Below w.heap.size w x)=>Qd v G B x (hg.below h hB) hf (Gm.ft.1 q) (Aj hB h.size));have H4:=aA (fun(q:Gm.right G=true) (hp:Gm.Gn true G.rs G.st) (x:World) (h:Below w.heap.size w x) (AK:Option Addr) (cK:Nat) (hk:gd x x.heap.size AK (Gm.kl G G.rs.length))=>Nc v G B x.heap.size AK cK x (hg.below h hB) hf (Gm.ft.1 q) hp (Aj hB h.size) hk (Af _));have bm:=fun w=>JU w;obtain⟨AT,cT,AN,cN,AR,cR,rfl,_⟩:=hg;obtain⟨w1,r⟩:∃y,y=(w.alloc (.cells #[.slice AT G.ts.length cT,.slice AN G.ns.length cN,.slice AR G.rs.length cR,.int .i64 G.st] 26)).alloc (.cells #[.slice none 0 0,.slice none 0 0,.slice none 0 0,.int .i64 0] 26):=⟨_,rfl⟩
 have ak:w1.heap.size=w.heap.size+2:=by rw[r];simp
 have ab:Hid (Below w.heap.size w w1):=aA (by rw[r];exact((AB _ w).alloc (Af _) _).alloc (by simp) _);have z:Hid (w1.heap[w.heap.size]?=some (.cells #[.slice AT G.ts.length cT,.slice AN G.ns.length cN,.slice AR G.rs.length cR,.int .i64 G.st] 26 (0,0))):=aA (by rw[r,Bs _ _ _ (by simp)];exact AG w _);have a6:Hid (w1.heap[w.heap.size+1]?=some (.cells #[.slice none 0 0,.slice none 0 0,.slice none 0 0,.int .i64 0] 26 (0,0))):=aA (by rw[r];have:=AG (w.alloc (.cells #[.slice AT G.ts.length cT,.slice AN G.ns.length cN,.slice AR G.rs.length cR,.int .i64 G.st] 26)) (.cells #[.slice none 0 0,.slice none 0 0,.slice none 0 0,.int .i64 0] 26);simpa using this);have al:=aA ak;have HQ:=aA (fun(y:World) (h:Below w1.heap.size w1 y)=>(h.block w.heap.size (by omega)).trans z.o);have HZ:=aA (fun(y:World) (h:Below w1.heap.size w1 y)=>(h.block (w.heap.size+1) (by omega)).trans a6.o);have t:=aA (fun(y:World) (h:Below w1.heap.size w1 y)=>ab.o.trans (h.mono (by omega)));have c0:=aS z.o;have c1:=aX z.o;have c2:=aY z.o;have c3:=bI z.o;have bo:w.heap.size<w1.heap.size:=by omega
 clear hf ak;cases q:Gm.right G
 ·rw[q]at H1;have HE:=aA (Gm.o9 q);clear q H2 H3 H4
  go_enter func69,ntmps69
  go_upto_region 1 with fail
  rw[<-r];clear r;go_wp2_with fail
  refine(H1.o _ ab.o).mono ?_;rintro _ w2 ⟨rfl,i⟩;have g0:=aS (HZ.o w2 i);have g1:=aX (HZ.o w2 i);have g2:=aY (HZ.o w2 i);have g3:=bI (HZ.o w2 i);have e0:=AH w2 _ 0 _ _ (HZ.o w2 i);have e1:=AH w2 _ 1 _ _ (HZ.o w2 i);have e2:=AH w2 _ 2 _ _ (HZ.o w2 i);have e3:=AH w2 _ 3 _ _ (HZ.o w2 i);have lz:=(Ad.1 (HZ.o w2 i)).1;have A:=aA (fun u1 u2 u3 u4=>((((t.o w2 i).setCell (p:=⟨w.heap.size+1,0,none⟩) (by simp only;omega) u1).setCell (p:=⟨w.heap.size+1,1,none⟩) (by simp only;omega) u2).setCell (p:=⟨w.heap.size+1,2,none⟩) (by simp only;omega) u3).setCell (p:=⟨w.heap.size+1,3,none⟩) (by simp only;omega) u4);clear c0 c1 c2 c3 i H1;go_wp2;refine B8 (v:=.tuple #[.agg #[.slice none 0 0,.slice none 0 0,.slice none 0 0,.int .i64 0],.slice none 0 0,.int .i64 1]) (by simp[results,results69,go_sem,g0,g1,g2,g3]) rfl ?_;exact sN.no HE.o (by decide) (A.o _ _ _ _)
 ·have am:=aA q;have ao:=aA (Gm.ft.1 q);have H2:=aA (fun x h=>(show Calls _ _ _ _ (tK _ _) from(H2.o x h).mono fun e w' k=>k.1 q));have H3:=aA (H3.o q);have H4:=aA (H4.o q);rw[q]at H1;clear q;obtain⟨T,hT⟩:∃x,x=Gm.gn true G.rs G.ns.length:=⟨_,rfl⟩
  have ap:Hid (T.length=G.ns.length):=aA (by rw[hT,Gm.gW]);rw[<-hT]at H2;have a9:=ao.o.s0;have ac:=ao.o.s1;obtain⟨m,hm⟩:∃m:Nat,G.st=(m:Int):=⟨G.st.toNat,by omega⟩
  obtain⟨tb,ad⟩:∃b,b=T.getD m false:=⟨_,rfl⟩
  have ae:Hid (tb=Gm.tr (Gm.Gn true G.rs G.st)):=aA (by rw[ad,hT,Gm.mN _ _ _ _ (by omega),hm]);have ba:=aA ad;have HM:=aA hm;have bb:m<G.ns.length:=by omega
  have bp:(m:Int)<(G.ns.length:Int):=by omega
  clear hT a9 ac hm ad
  go_enter func69,ntmps69
  go_upto_region 1 with fail
  rw[<-r];clear r;go_upto_region 3 with fail
  refine(H1.o _ ab.o).mono ?_;rintro _ w2 ⟨rfl,i⟩;have j:=aA i;clear i c0 c1 c2 c3 H1;go_upto_region 3 with fail
  go_cut [16] (fun v16 wx=>v16=.bool (!tb)/\Below w1.heap.size w1 wx)
  case first =>
   have q0:=fun y:Calm.On w2.heap.size w2=>aS (HQ.o y.1 (j.o.trans (y.2.mono j.o.size)));have q1:=fun y:Calm.On w2.heap.size w2=>aX (HQ.o y.1 (j.o.trans (y.2.mono j.o.size)));have q2:=fun y:Calm.On w2.heap.size w2=>aY (HQ.o y.1 (j.o.trans (y.2.mono j.o.size)));have q3:=fun y:Calm.On w2.heap.size w2=>bI (HQ.o y.1 (j.o.trans (y.2.mono j.o.size)));rw[HM.o]at q3;rw[HM.o]at H2;have C:Hid (Below w2.heap.size w2 w2.drew):=aA (aB (AB _ _) 1);refine CalmN.fk (fun x=>∃y:Calm.On w2.heap.size w2,x=y.1) (.one [0,2,3] 1 (.fin [4,5,6])) (by kernel_rfl) (by kernel_rfl) (fun _ _ d _ _ h=>by cases d <;> exact h) ⟨⟨w2.drew,C.o⟩,rfl⟩ ?_;simp only[CalmN.fN,CalmN.fv,CalmN.fo,Az,Am,Ap];repeat (go_big_quiet_step (fail))
   refine Aw ?_;clear q0 q1 q2 q3;obtain⟨wd,aq⟩:∃y,y=w2.drew:=⟨_,rfl⟩
   rw[<-aq]at C ⊢;clear aq;intro KK ar;rw[AC (by rfl)];go_wp2_with fail
   refine(H2.o wd (t.o _ (j.o.trans (C.o.mono j.o.size)))).mono ?_;rintro _ w3 ⟨ga,rfl,bc,af,au⟩;rw[ap.o];have l:Below w2.heap.size w2 w3:=C.o.trans (au.mono C.o.size);have bd:=aA (j.o.trans (l.mono j.o.size));go_wp2_with fail
   refine ar _ _ ⟨⟨w3,l⟩,rfl⟩ (fun x=>∃y:Calm.On w3.heap.size w3,x=y.1) (fun x h=>by obtain⟨y,rfl⟩:=h;exact⟨⟨y.1,l.trans (y.2.mono l.size)⟩,rfl⟩) ⟨⟨w3,AB _ _⟩,rfl⟩ ?_;have bk:=fun y:Calm.On w3.heap.size w3=>(y.2.cell (p:=⟨ga,m,none⟩) af.lt).trans (af.cell m (by rw[ap.o];exact bb));rw[<-ba.o]at bk;clear au bc af l ar;repeat (go_big_quiet_step (fail))
   refine Aw ?_;go_wp2_with fail
   go_meet
   case rel=>exact⟨rfl,bd.o⟩
  case rest =>
   obtain⟨rfl,f⟩:=hcut;rw[ae.o];cases hp:Gm.tr (Gm.Gn true G.rs G.st)
   ·have HE:=aA (Gm.lT am.o hp);have g0:=aS (HZ.o wc f);have g1:=aX (HZ.o wc f);have g2:=aY (HZ.o wc f);have g3:=bI (HZ.o wc f);have e0:=AH wc _ 0 _ _ (HZ.o wc f);have e1:=AH wc _ 1 _ _ (HZ.o wc f);have e2:=AH wc _ 2 _ _ (HZ.o wc f);have e3:=AH wc _ 3 _ _ (HZ.o wc f);have lz:=(Ad.1 (HZ.o wc f)).1;have A:=aA (fun u1 u2 u3 u4=>((((t.o wc f).setCell (p:=⟨w.heap.size+1,0,none⟩) (by simp only;omega) u1).setCell (p:=⟨w.heap.size+1,1,none⟩) (by simp only;omega) u2).setCell (p:=⟨w.heap.size+1,2,none⟩) (by simp only;omega) u3).setCell (p:=⟨w.heap.size+1,3,none⟩) (by simp only;omega) u4);clear hp ae H2 H3 H4 f;go_wp2;refine B8 (v:=.tuple #[.agg #[.slice none 0 0,.slice none 0 0,.slice none 0 0,.int .i64 0],.slice none 0 0,.int .i64 9]) (by simp[results,results69,go_sem,g0,g1,g2,g3]) rfl ?_;exact sN.no HE.o (by decide) (A.o _ _ _ _)
   ·have HE:=aA (Gm.pa am.o hp);have H4:=aA (H4.o (Gm.fP.1 hp));have aa:=aA f;have c0:=aS (HQ.o wc f);have c1:=aX (HQ.o wc f);have c2:=aY (HQ.o wc f);have c3:=bI (HQ.o wc f);have lc0:=Bj c0;obtain⟨ks,ag⟩:∃ks,ks=Gm.kl G G.rs.length:=⟨_,rfl⟩
    rw[<-ag]at H3 H4;have bf:=aA ag;clear hp ae H2 f ag;go_wp2_with fail
    refine(H3.o _ (t.o _ aa.o)).mono ?_;rintro _ w4 ⟨u,rfl,ah,av⟩;have s:=aA (aa.o.trans (av.mono aa.o.size));obtain⟨A4,c4,rfl,_,_,aw⟩:=ah.form;have ax:=aA aw;have ay:=aA ah;have bg:=aA (Aj aa.o.size (Af wc.heap.size));clear c0 c1 c2 c3 lc0 av aw ah;have c0:=aS (HQ.o w4 s.o);have c1:=aX (HQ.o w4 s.o);have c2:=aY (HQ.o w4 s.o);have c3:=bI (HQ.o w4 s.o);have lc0:=Bj c0;go_wp2_with fail
    refine(H4.o w4 (t.o _ s.o) A4 c4 ax.o).mono ?_;rintro _ w5 ⟨g,rfl,az,ai⟩;have n:=aA (s.o.trans (ai.mono s.o.size));have a0:=aA (ay.o.below ai (Af _));have a1:=aA az;obtain⟨u0,u1,u2,rfl,a2,a3,a4⟩:=az;obtain⟨A0,d0,rfl,_,_⟩:=aN a2;obtain⟨A1,d1,rfl,_,_⟩:=aN a3;obtain⟨A2,d2,rfl,_,_⟩:=xi a4;have bh:=aA (s.o.size);clear a2 a3 a4;clear c0 c1 c2 c3 lc0 ai ax ay;have g0:=aS (HZ.o w5 n.o);have g1:=aX (HZ.o w5 n.o);have g2:=aY (HZ.o w5 n.o);have g3:=bI (HZ.o w5 n.o);have e0:=AH w5 _ 0 _ _ (HZ.o w5 n.o);have e1:=AH w5 _ 1 _ _ (HZ.o w5 n.o);have e2:=AH w5 _ 2 _ _ (HZ.o w5 n.o);have e3:=AH w5 _ 3 _ _ (HZ.o w5 n.o);have lz:=(Ad.1 (HZ.o w5 n.o)).1;have A:=aA (fun u1 u2 u3 u4=>((((t.o w5 n.o).setCell (p:=⟨w.heap.size+1,0,none⟩) (by simp only;omega) u1).setCell (p:=⟨w.heap.size+1,1,none⟩) (by simp only;omega) u2).setCell (p:=⟨w.heap.size+1,2,none⟩) (by simp only;omega) u3).setCell (p:=⟨w.heap.size+1,3,none⟩) (by simp only;omega) u4);have aj:=aF (aF (aF (aF (AJ w5 (some (w.heap.size+1))) 0 (.slice A0 (Gm.reduce G).ts.length d0)) 1 (.slice A1 (Gm.reduce G).ns.length d1)) 2 (.slice A2 (Gm.reduce G).rs.length d2)) 3 (.int .i64 (Gm.reduce G).st);have bi:=aA (a1.o.grown aj (fun g e=>by injection e with e;have:=al.o;have:=bh.o;omega));have bj:=aA (a0.o.jr aj (by have:=al.o;have:=bg.o;omega));generalize a5:Gm.reduce G=RG at *;have bl:=aA a5;clear aj a1 a0 a5;go_wp2;refine B8 (v:=.tuple #[.agg #[.slice A0 RG.ts.length d0,.slice A1 RG.ns.length d1,.slice A2 RG.rs.length d2,.int .i64 RG.st],.slice A4 ks.length c4,.int .i64 0]) (by simp[results,results69,go_sem,g0,g1,g2,g3]) rfl ?_;exact sN.ok HE.o bf.o (by rw[bl.o];exact bi.o.rd) bj.o.wW (A.o _ _ _ _)
theorem Gm.sH (hf:Gm.Fit G):Gm.Fit (Gm.nV G):=by
 unfold Gm.nV;split
 case isFalse=>exact⟨by simp[Gm.mO],by simp[Gm.mO],by simp[Gm.mO],by unfold Gm.In;simp[Gm.mO]⟩
 case isTrue h =>
  have hr:Gm.right G=true:=by
   cases q:Gm.right G
   ·rw[Gm.o9 q]at h;cases h
   ·rfl
  have hp:Gm.Gn true G.rs G.st:=by
   cases q:Gm.tr (Gm.Gn true G.rs G.st)
   ·rw[Gm.lT hr q]at h;cases h
   ·exact Gm.fP.1 q
  have aa:=Gm.ft.1 hr;have ad:=Gm.oV aa;have ae:=(Gm.fG G).1 aa.n;have ab:∀ {l:Int},l∈Gm.fu G->Gm.In (Gm.pos (Gm.fu G) l):=fun hl=>by have:=Gm.kL hl;unfold Gm.In;omega
  refine⟨hf.t,fun s hs=>?_,fun y hy=>?_,ab (Gm.xM hp)⟩
  ·obtain⟨l,hl,rfl⟩:=Bm.1 hs
   have:=Gm.sC aa hl
   rw[Ag,AD (by omega),Bp];exact hf.n _ (AE _)
  ·obtain⟨x,hx,rfl⟩:=Bm.1 hy;have ac:=hf.r x (Gm.iJ.1 hx).1;refine⟨ab (Gm.qw hx),ac.2.1,fun z hz=>?_⟩;obtain⟨u,hu,rfl⟩:=Bm.1 hz;unfold Gm.mc;by_cases h0:u<0
   ·rw[AC h0]
    have:=Gm.kL (Gm.ph hx hu h0)
    unfold Gm.In;omega
   ·rw[AI h0];exact ac.2.2 u hu
noncomputable def Gm.jE (G:Gm.Gr):Bool:=decide (Gm.nB G=0)&&Gm.same G (Gm.nV G)
theorem Gm.uP (G:Gm.Gr):Gm.nB G=0\/Gm.nB G=1\/Gm.nB G=9:=by
 unfold Gm.nB;split
 ·split
  ·exact .inl rfl
  ·exact .inr (.inr rfl)
 ·exact .inr (.inl rfl)
theorem QE (v:Value) (G:Gm.Gr) (B:Nat) (w:World) (hg:aT w B v G) (hf:Gm.Fit G) (hB:B<=w.heap.size) :
  Calls prog 45 #[v] w fun e w'=>e=.returned (.bool (Gm.jE G))/\Below w.heap.size w w':=by
 have H1:=aA (fun(x:World) (h:Below w.heap.size w x)=>M9 v G B x (hg.below h hB) hf (Aj hB h.size));have H2:=aA (fun(x:World) (h:Below w.heap.size w x) (u:Value) (B':Nat) (hu:aT x B' u (Gm.nV G)) (ag:B'<=x.heap.size)=>O7 v u G (Gm.nV G) B B' x (hg.below h hB) hu hf (Gm.sH hf) (Aj hB h.size) ag);have ah:=Gm.uP G;have HI:Hid (Gm.jE G=(decide (Gm.nB G=0)&&Gm.same G (Gm.nV G))):=aA rfl;obtain⟨AT,cT,AN,cN,AR,cR,rfl,_⟩:=hg;have aa:=aA (One.start w #[.slice AT G.ts.length cT,.slice AN G.ns.length cN,.slice AR G.rs.length cR,.int .i64 G.st]);unfold sN at H1;generalize Gm.xL G=L at *;generalize Gm.nB G=er at *;generalize Gm.nV G=RG at *;clear hf;by_cases he:er=0
 ·have HX:Hid (Gm.jE G=Gm.same G RG):=aA (by rw[HI.o,AQ he];rfl);subst he;clear ah HI
  go_enter func45,ntmps45
  go_wp2_with fail
  refine(H1.o _ aa.o.below).mono ?_;rintro _ w2 ⟨g,A,c,rfl,ab,ad,d⟩;have ac:=aA (aa.o.on d);have ai:=aA ab;obtain⟨A0,d0,A1,d1,A2,d2,rfl,_⟩:=ab;have ae:=aA (One.start w2 #[.slice A0 RG.ts.length d0,.slice A1 RG.ns.length d1,.slice A2 RG.rs.length d2,.int .i64 RG.st]);have b:=aA (ac.o.on ae.o.below);have x0:=b.o.c 0 _ rfl;have x1:=b.o.c 1 _ rfl;have x2:=b.o.c 2 _ rfl;have x3:=b.o.c 3 _ rfl;have ak:w.heap.size<w2.heap.size:=ac.o.size;clear ad d;go_wp2_with fail
  refine(H2.o _ b.o.below _ w2.heap.size (ai.o.below ae.o.below (Af _)) ae.o.below.size).mono ?_;rintro _ w4 ⟨rfl,af⟩;have aj:=aA (b.o.on af);clear af x0 x1 x2 x3;go_wp2;go_ret
  exact⟨by rw[HX.o];rfl,aj.o.below⟩
 ·have HX:Hid (Gm.jE G=false):=aA (by rw[HI.o,AM he];rfl);have al:(er==0)=false:=by simpa using he
  clear HI H2
  go_enter func45,ntmps45
  go_wp2_with fail
  refine(H1.o _ aa.o.below).mono ?_;rintro _ w2 ⟨g,A,c,rfl,ab,ad,d⟩;have ac:=aA (aa.o.on d);obtain⟨A0,d0,A1,d1,A2,d2,rfl,_⟩:=ab;clear ad d;go_wp2;go_ret
  exact⟨by rw[HX.o];rfl,(ac.o.alloc _).below⟩
namespace Au
def sG (G:Gm.Gr) (r:Int):Bool:=decide (-1<=r)&&decide (r<G.rs.length)
theorem ko {r:Int}:sG G r=true ↔ -1<=r/\r<G.rs.length:=by unfold sG;simp
theorem um {x:It} (h:sG G x.1=false):gj G x=false:=by
 unfold sG at h;unfold gj;rw[h];rfl
theorem yv {x:It} (h:sG G x.1=true):gj G x=(decide (0<=x.2)&&decide (x.2<=(sy G x.1).length)):=by
 unfold sG at h;unfold gj;rw[h,Ck]
theorem uW (h:k<G.rs.length):sy G (k:Int)=(G.rs[k]).r:=by
 unfold sy;rw[AI (by omega),Ag,show((k:Int)).toNat=k by omega,AD h,Bp]
def rm (G:Gm.Gr) (x:It):Option Int:=if gj G x=true then nx G x else none
theorem oT {x:It} (h:gj G x=true):rm G x=nx G x:=by unfold rm;rw[AC h]
theorem nO {x:It} (h0:0<=x.2) (h1:x.2<(sy G x.1).length):nx G x=some ((sy G x.1).getD x.2.toNat 0):=by
 unfold nx;rw[Ag,AD (by omega:x.2.toNat<(sy G x.1).length)];rfl
theorem yD {x:It} (h:sG G x.1=false):rm G x=none:=by unfold rm;rw[um h];rfl
theorem wO {x:It} (h:x.2<0\/(sy G x.1).length<=x.2):rm G x=none:=by
 unfold rm;split
 ·rename_i hi
  have:=fW.1 hi
  unfold nx;exact BH (by omega)
 ·rfl
theorem yC {x:It} (hr:sG G x.1=true) (h0:0<=x.2) (h1:x.2<(sy G x.1).length):rm G x=some ((sy G x.1).getD x.2.toNat 0):=by
 unfold rm;rw[AC (fW.2 ⟨ko.1 hr,h0,by omega⟩),nO h0 h1]
end Au
theorem IB (z:Int) (hz:-9223372036854775808<=z) (aa:z<=9223372036854775807) (w:World) :
  Calls prog 108 #[.int .i64 z] w fun e w'=>e=.returned (.int .i64 (-1-z))/\w'=w:=by
 have hs:IntKind.i64.wrap (-1-z) = -1-z:=B3 _ (by omega);clear hz aa
 go_enter func108,ntmps108
 go_wp2;go_ret
 exact⟨rfl,rfl⟩
theorem J0 (z:Int) (w:World) :
  Calls prog 106 #[.int .i64 z] w fun e w'=>e=.returned (.bool (decide (z<0)))/\w'=w:=by
 go_enter func106,ntmps106
 go_wp2;go_ret
 exact⟨rfl,rfl⟩
def Gk (L:List Int) (w:World) (e:Ending) (w':World):Prop:=∃A c,e=.returned (.tuple #[.slice A L.length c,.bool true])/\L.length<=c/\c<=9223372036854775807/\gd w' w'.heap.size A L/\Below w.heap.size w w'
theorem JY (v:Value) (G:Gm.Gr) (B:Nat) (r:Int) (w:World) (hg:aT w B v G) (hf:Gm.Fit G) (hB:B<=w.heap.size) (hr:Au.sG G r=true) :
  Calls prog 111 #[v,.int .i64 r] w (Gk (Au.sy G r) w):=by
 have hr:=Au.ko.1 hr;have aa:=hf.s;unfold Gm.In at aa;have HX:=aA (fun w=>IB G.st aa.1 aa.2 w);obtain⟨AT,cT,AN,cN,AR,cR,rfl,⟨ah,ai⟩,⟨aj,ak⟩,⟨al,am⟩,_,_,hR⟩:=hg;have b:=aA (bE.start 26 w #[.slice AT G.ts.length cT,.slice AN G.ns.length cN,.slice AR G.rs.length cR,.int .i64 G.st]);have x2:=b.o.c 2 _ rfl;have x3:=b.o.c 3 _ rfl;clear hf aa;unfold Gk;by_cases h1:r = -1
 ·subst h1;have e:Au.sy G (-1)=[-1-G.st]:=rfl;have HL:=aA (zY (w.alloc (.cells #[.slice AT G.ts.length cT,.slice AN G.ns.length cN,.slice AR G.rs.length cR,.int .i64 G.st] 26)) [-1-G.st]);rw[e];clear hr hR e
  go_enter func111,ntmps111
  go_wp2_with fail
  refine(HX.o _).mono ?_;rintro _ _ ⟨rfl,rfl⟩;go_wp2
  go_ret2
  exact⟨_,_,rfl,by simp,by simp,by simpa[tR] using HL.o.1,b.o.below.trans (HL.o.2.mono (by simp))⟩
 ·obtain⟨k,rfl⟩:∃k:Nat,r=(k:Int):=⟨r.toNat,by omega⟩
  have ab:k<G.rs.length:=by omega
  obtain⟨g,o,rfl,ad,hc⟩:=hR (by omega);obtain⟨_,⟨A',c',k1,ae,af,ac⟩,_⟩:=hc k ab;have k1:=(b.o.below.cell (p:=⟨g,o+k*3+1,none⟩) (Ah ad hB)).trans k1;have ag:=aA ((ac.below b.o.below hB).more (B':=w.heap.size+1) (by omega));have h2:((k:Int) == -1)=false:=by rw[Ba];omega
  have h3:(k:Int)<(G.rs.length:Int):=by omega
  rw[Au.uW ab];clear hc ac hR hr h1 HX;generalize (G.rs[k]).r=L at *
  go_enter func111,ntmps111
  go_wp2
  go_ret2
  exact⟨_,_,rfl,ae,af,by simpa using ag.o,b.o.below⟩
theorem Kj (v:Value) (G:Gm.Gr) (B:Nat) (r:Int) (w:World) (hg:aT w B v G) (hr:Au.sG G r=false) :
  Calls prog 111 #[v,.int .i64 r] w fun e w'=>e=.returned (.tuple #[.slice none 0 0,.bool false])/\Below w.heap.size w w':=by
 have hr:¬(-1<=r/\r<G.rs.length):=fun h=>by rw[Au.ko.2 h]at hr;cases hr
 obtain⟨AT,cT,AN,cN,AR,cR,rfl,_,_,⟨ab,ac⟩,_,_,_⟩:=hg;have aa:=aA (bE.start 26 w #[.slice AT G.ts.length cT,.slice AN G.ns.length cN,.slice AR G.rs.length cR,.int .i64 G.st]);have x2:=aa.o.c 2 _ rfl;have h1:(r == -1)=false:=by rw[Ba];omega
 by_cases h0:0<=r
 ·have h2:(G.rs.length:Int)<=r:=by omega
  clear hr
  go_enter func111,ntmps111
  go_wp2
  go_ret2
  exact⟨rfl,aa.o.below⟩
 ·clear hr
  go_enter func111,ntmps111
  go_wp2
  go_ret2
  exact⟨rfl,aa.o.below⟩
abbrev lI (x:Au.It):Value:=.agg #[.int .i64 x.1,.int .i64 x.2]
theorem Qg (v:Value) (G:Gm.Gr) (B:Nat) (x:Au.It) (w:World) (hg:aT w B v G) (hf:Gm.Fit G) (hB:B<=w.heap.size) :
  Calls prog 105 #[v,lI x] w fun e w'=>e=.returned (.bool (Au.gj G x))/\Below w.heap.size w w':=by
 have HG:=aA hg;obtain⟨AT,cT,AN,cN,AR,cR,rfl,_⟩:=hg;have b:=aA (bQ.start 26 60 w #[.slice AT G.ts.length cT,.slice AN G.ns.length cN,.slice AR G.rs.length cR,.int .i64 G.st] #[.int .i64 x.1,.int .i64 x.2]);have g0:=b.o.c1 0 _ rfl;have g1:=b.o.c1 1 _ rfl;have g2:=b.o.c1 2 _ rfl;have g3:=b.o.c1 3 _ rfl;have i0:=b.o.c2 0 _ rfl;have i1:=b.o.c2 1 _ rfl;cases hr:Au.sG G x.1
 ·have HR:=aA (fun y (h:Below w.heap.size w y)=>Kj _ G B x.1 y (HG.o.below h hB) hr);rw[Au.um hr];clear hr hf
  go_enter func105,ntmps105
  go_wp2_with fail
  refine(HR.o _ b.o.below).mono ?_;rintro _ w2 ⟨rfl,hb⟩;have HB:=aA (b.o.on hb);clear hb g0 g1 g2 g3 i0 i1;go_wp2;go_ret
  exact⟨rfl,HB.o.below⟩
 ·have HR:=aA (fun y (h:Below w.heap.size w y)=>JY _ G B x.1 y (HG.o.below h hB) hf (Aj hB h.size) hr);unfold Gk at HR;have HI:=aA (Au.yv hr);clear hr hf;generalize Au.sy G x.1=L at *
  go_enter func105,ntmps105
  go_wp2_with fail
  refine(HR.o _ b.o.below).mono ?_;rintro _ w2 ⟨A,c,rfl,hl,hm,aa,hb⟩;have HB:=aA (b.o.on hb);have j1:=HB.o.c2 1 _ rfl;clear hb aa g0 g1 g2 g3 i0 i1;by_cases h0:0<=x.2
  ·by_cases h1:x.2<=(L.length:Int)
   ·have HE:=aA (show true=Au.gj G x by rw[HI.o,AQ h0,AQ h1];rfl);go_wp2;go_ret
    exact⟨aE HE.o,HB.o.below⟩
   ·have HE:=aA (show false=Au.gj G x by rw[HI.o,AQ h0,AM h1];rfl);have HF:=aA (AM h1);go_wp2;go_ret
    exact⟨aE (HF.o.trans HE.o),HB.o.below⟩
  ·have HE:=aA (show false=Au.gj G x by rw[HI.o,AM h0];rfl);go_wp2;go_ret
   exact⟨aE HE.o,HB.o.below⟩
theorem JZ (v:Value) (G:Gm.Gr) (B:Nat) (x:Au.It) (w:World) (hg:aT w B v G) (hf:Gm.Fit G) (hB:B<=w.heap.size) :
  Calls prog 73 #[v,lI x] w fun e w'=>e=.returned (.tuple #[.int .i64 ((Au.rm G x).getD 0),.bool (Au.rm G x).isSome])/\Below w.heap.size w w':=by
 have HG:=aA hg;obtain⟨AT,cT,AN,cN,AR,cR,rfl,_⟩:=hg;have b:=aA (bQ.start 26 60 w #[.slice AT G.ts.length cT,.slice AN G.ns.length cN,.slice AR G.rs.length cR,.int .i64 G.st] #[.int .i64 x.1,.int .i64 x.2]);have g0:=b.o.c1 0 _ rfl;have g1:=b.o.c1 1 _ rfl;have g2:=b.o.c1 2 _ rfl;have g3:=b.o.c1 3 _ rfl;have i0:=b.o.c2 0 _ rfl;have i1:=b.o.c2 1 _ rfl;cases hr:Au.sG G x.1
 ·have HR:=aA (fun y (h:Below w.heap.size w y)=>Kj _ G B x.1 y (HG.o.below h hB) hr);rw[Au.yD hr];clear hr hf
  go_enter func73,ntmps73
  go_wp2_with fail
  refine(HR.o _ b.o.below).mono ?_;rintro _ w2 ⟨rfl,hb⟩;have HB:=aA (b.o.on hb);have j1:=HB.o.c2 1 _ rfl;clear hb g0 g1 g2 g3 i0 i1;by_cases h0:x.2<0
  ·go_wp2
   go_ret2
   exact⟨rfl,HB.o.below⟩
  ·have h1:(0:Int)<=x.2:=by omega
   go_wp2
   go_ret2
   exact⟨rfl,HB.o.below⟩
 ·have HR:=aA (fun y (h:Below w.heap.size w y)=>JY _ G B x.1 y (HG.o.below h hB) hf (Aj hB h.size) hr);unfold Gk at HR;have HO:=aA (Au.wO (G:=G) (x:=x));have HI:=aA (Au.yC hr);clear hr hf;generalize Au.rm G x=q at *;generalize Au.sy G x.1=L at *
  go_enter func73,ntmps73
  go_wp2_with fail
  refine(HR.o _ b.o.below).mono ?_;rintro _ w2 ⟨A,c,rfl,hl,hm,aa,hb⟩;have HB:=aA (b.o.on hb);have j1:=HB.o.c2 1 _ rfl;clear hb g0 g1 g2 g3 i0 i1;by_cases h0:x.2<0
  ·obtain rfl:=HO.o (.inl h0);clear HO HI aa;go_wp2
   go_ret2
   exact⟨rfl,HB.o.below⟩
  ·by_cases h1:(L.length:Int)<=x.2
   ·obtain rfl:=HO.o (.inr h1);clear HO HI aa;go_wp2
    go_ret2
    exact⟨rfl,HB.o.below⟩
   ·have HQ:=HI.o (by omega) (by omega);obtain⟨g,o,rfl,ac,hc⟩:=aa (by omega);obtain⟨k,hk⟩:∃k:Nat,x.2=(k:Int):=⟨x.2.toNat,by omega⟩
    rw[hk]at j1 h0 h1 HQ;have ab:k<L.length:=by omega
    have k0:=hc k ab;rw[show((k:Int)).toNat=k by omega]at HQ;generalize L.getD k 0=z at *;have HQ:=aA HQ;clear HO HI hc hk h0 h1;have h0:((k:Int)<0)=False:=eq_false (by omega);go_wp2
    go_ret2
    exact⟨by rw[HQ.o];rfl,HB.o.below⟩
namespace Au
def s7 (n:Nat) (q:Int):Bool:=decide (0<=q)&&decide (q<(n:Int))
theorem mj {q:Int}:s7 n q=true↔0<=q/\q<(n:Int):=by unfold s7;simp
def QQ (l:List (Int×Int)) (s:Int) (i:Nat):Prop:=(∃h:i<l.length,(l[i]).1=s)/\∀j (h:j<l.length),j<i->(l[j]).1≠s
theorem sj:∀ {l:List (Int×Int)} {s:Int} {i:Nat} (_:QQ l s i) (hi:i<l.length),lead l s=(l[i]).2
 | [],_,_,_,hi=>by simp at hi
 | x::l,s,0,h,hi=>by
  obtain⟨⟨_,h1⟩,_⟩:=h;have h1:x.1=s:=h1;unfold lead;rw[List.find?_cons_of_pos (by simpa using h1)];rfl
 | x::l,s,i+1,h,hi=>by
  obtain⟨⟨h0,h1⟩,h2⟩:=h;have hx:x.1≠s:=h2 0 (by simp) (by omega)
  have ih:=sj (l:=l) (s:=s) (i:=i) ⟨⟨by simpa using h0,by simpa using h1⟩,fun j hj aa=>by
   have:=h2 (j+1) (by simpa using hj) (by omega)
   simpa using this⟩ (by simpa using hi)
  unfold lead at ih ⊢;rw[List.find?_cons_of_neg (by simpa using hx),ih];rfl
theorem wM {l:List (Int×Int)} (h:∀x∈l,x.1≠s):lead l s = -1:=by
 unfold lead;rw[List.find?_eq_none.2 (fun x hx=>by simpa using h x hx)];rfl
theorem xh (E:List (List (Int×Int))) (q:Int):nC E q []=if s7 E.length q=true then some q else none:=by
 rw[nC];by_cases h:s7 E.length q=true
 ·rw[AC h,AC (mj.1 h)]
 ·rw[AI h,AI (fun k=>h (mj.2 k))]
end Au
def Au.jI (ss:List qV) (q:Int) (sy:List Int):Option Int:=Au.nC (ss.map (·.2)) q sy
theorem Au.nw (ss:List qV) (q:Int):Au.jI ss q []=if Au.s7 ss.length q=true then some q else none:=by
 unfold Au.jI;rw[Au.xh,Bh]
theorem Au.tA (ss:List qV) (q:Int) (a:List Int) (s:Int):Au.jI ss q (a++[s])=(Au.jI ss q a).bind fun q1=>Au.jI ss (Au.lead ((ss.map (·.2)).getD q1.toNat []) s) []:=Au.qC
namespace Lk
open Au Gm Go.Mw
theorem sA {a b c:SS} (h:mb a b) (k:mb b c):(decide (b≠a)||decide (c≠b))=decide (c≠a):=by
 by_cases e:c=a
 ·subst e;have e2:b=c:=(mb.mD k h).symm▸rfl;subst e2;simp
 ·rw[AQ e];by_cases e1:b=a
  ·subst e1;rw[AQ e,Ev]
  ·rw[AQ e1,Dw]
theorem mP {L:List (List It)} {S:SS} (hf:Fit L S) (hu:jP S) {s:Nat} (hs:s<4294967296) (q:Nat) (x:It):jP (gv L S q x s):=fun p i=>by
 rw[GI];split
 ·rename_i e
  rw[jy (hf.2 q)];split
  ·exact qe (hu q i) hs
  ·exact hu q i
 ·exact hu p i
theorem Ru {G:Gr} {L:List (List It)} {S:SS} (hf:Fit L S) (hu:jP S) {s:Nat} (hs:s<4294967296) (q:Nat) (sym:Int) (k:Nat):jP (lS G L q sym s S k):=by
 unfold lS;split
 ·exact mP hf hu hs _ _
 ·exact hu
theorem uf {G:Gr} {L:List (List It)} {S:SS} (hf:Fit L S) (q:Nat) (sym:Int) (s:Nat) (n:Nat):Fit L ((List.range n).foldl (lS G L q sym s) S)/\mb S ((List.range n).foldl (lS G L q sym s) S) :=
 FQ (I:=Fit L) (fun s' k hs=>zr (G:=G) q sym s s' k hs) (List.range n) S hf
theorem mM {G:Gr} {L:List (List It)} {s:Nat} (hs:s<4294967296) (q:Nat) (sym:Int):∀(ks:List Nat) (S:SS),Fit L S->jP S->jP (ks.foldl (lS G L q sym s) S)
 | [],_,_,h=>h
 | k::ks,S,hf,h=>mM hs q sym ks _ (zr q sym s S k hf).1 (Ru hf h hs q sym k)
theorem sX {G:Gr} {L:List (List It)} (S:SS) (q:Nat) (sym:Int) (s n:Nat):(List.range (n+1)).foldl (lS G L q sym s) S=lS G L q sym s ((List.range n).foldl (lS G L q sym s) S) n:=by
 rw[CH,Dj];rfl
theorem Ln {α β:Type}:∀ {K:List α} {E:List β},E.length=K.length->(K.zip E).map (·.2)=E
 | [],[],_=>rfl
 | [],_::_,h=>by cases h
 | _::_,[],h=>by cases h
 | x::K,y::E,h=>by
  rw[List.zip_cons_cons,Bz,Ln (by simpa using h)]
theorem Mc {G:Gr} {K:List (List It)} (hi:Inv G K E) (hE:E.length=K.length) {j:Nat} (he:Ed E q s j):Au.jI (K.zip E) (q:Int) [s]=some (j:Int):=by
 have hj:j<E.length:=by
  have:=(Bc.1 (hi.to he)).1
  omega
 obtain⟨hq,hm⟩:=he
 have hl:lead (E.getD q []) s=(j:Int):=by
  rw[Ag,AD hq,Bp];exact FK (oP hi hq) hm
 unfold jI;rw[Ln hE];rw[nC,AC (by omega),nC,Cq,hl,AC (by omega)]
noncomputable def jZ (K:List (List It)) (E:List (List (Int×Int))) (q:Nat) (s:Int):Nat:=((Au.jI (K.zip E) (q:Int) [s]).getD 0).toNat
theorem Me {G:Gr} {K:List (List It)} (hi:Inv G K E) (hE:E.length=K.length) {j:Nat} (he:Ed E q s j):jZ K E q s=j:=by
 unfold jZ;rw[Mc hi hE he];simp
end Lk
namespace Lk
open Au Gm Go.Mw
section
variable {G:Gr} {K:List (List It)} {E:List (List (Int×Int))}
noncomputable def fq (G:Gr) (K:List (List It)):List (List It):=K.map (iU G)
theorem gQ (G:Gr) (K:List (List It)):(fq G K).length=K.length:=Bh _
theorem ic (hq:q<K.length):(fq G K).getD q []=iU G (K.getD q []):=by
 unfold fq;rw[Ag,Bv,Ag,AD hq];rfl
theorem iW {x:It} (h:x∈(fq G K).getD q []):q<K.length/\x∈iU G (K.getD q []):=by
 rcases Bx q K.length with hq|hq
 ·rw[ic hq]at h;exact⟨hq,h⟩
 ·rw[Ag,BH (by rw[gQ];exact hq)]at h;cases h
theorem IV (hi:Inv G K E) (hE:E.length=K.length) (aa:Ok G) {x:It} (hx:x∈(fq G K).getD q []) (hs:nx G x=some s):Ed E q s (jZ K E q s)/\K[jZ K E q s]?=some (mv G (iU G (K.getD q [])) s):=by
 obtain⟨hq,hx⟩:=iW hx;obtain⟨j,h1,h2⟩:=hi.jq hE aa hq hx hs;rw[Me hi hE h1];exact⟨h1,h2⟩
theorem za (hi:Inv G K E) (hE:E.length=K.length) (aa:Ok G) {x:It} (hx:x∈(fq G K).getD q []) (hs:nx G x=some s):jZ K E q s<K.length/\Au.jI (K.zip E) (q:Int) [s]=some (jZ K E q s:Int):=by
 have h:=IV hi hE aa hx hs;refine⟨(Bc.1 h.2).1,Mc hi hE h.1⟩
theorem S5 (hi:Inv G K E) (hE:E.length=K.length) (aa:Ok G) {x:It} (hx:x∈(fq G K).getD q []) (hs:nx G x=some s):(x.1,x.2+1)∈(fq G K).getD (jZ K E q s) []:=by
 have h2:=(IV hi hE aa hx hs).2;have hl:=(Bc.1 h2).1;rw[ic hl,ig (hi.uq hl)];refine .of _ ?_;rw[Ag,h2,Bp];exact FL.2 ⟨x,(iW hx).2,hs,rfl⟩
theorem SN (hi:Inv G K E) {x:It} (hk:k<G.rs.length) (hx:x∈(fq G K).getD q []) (hs:nx G x=some s) (h0:s<0) (hl:(G.rs[k]).l = -1-s):((k:Int),(0:Int))∈(fq G K).getD q []:=by
 obtain⟨hq,hx⟩:=iW hx;rw[ic hq,ig (hi.uq hq)];exact .on x ((ig (hi.uq hq)).1 hx) s hs h0 k hk hl
structure qS (G:Gr) (K:List (List It)) (E:List (List (Int×Int))) (S:SS):Prop where
 f:Fit (fq G K) S
 s:lF G E (fq G K) S
 b:At (fq G K) S 0 (-1,0) G.ts.length
 r:∀q i:Nat,ps G (jZ K E) (fq G K) S (q,i)=S
theorem qS.cls {S:SS} (h:qS G K E S) (hi:Inv G K E) (hE:E.length=K.length) (aa:Ok G):zC G E (fq G K) S :=
 ⟨h.b,fun q i=>Rt (fun _ _ _ _ _ _ he=>(Me hi hE he).symm) (fun _ _ _ hx hs=>S5 hi hE aa hx hs) (fun _ _ _ _ hk hx hs h0 hl=>SN hi hk hx hs h0 hl) h.f (h.r q i)⟩
theorem Se (q:Nat):((fq G K).getD q []).Nodup:=by
 rcases Bx q K.length with hq|hq
 ·rw[ic hq];exact Oz (kV _ _)
 ·rw[Ag,BH (by rw[gQ];exact hq)];exact List.nodup_nil
theorem RX {α:Type} {l:List α} (h:l.Nodup) {j:Nat} (hi:i<l.length) (hj:j<l.length) (e:l[i]=l[j]):i=j:=by
 have p:=CX.1 (BO.1 h);rcases Nat.lt_trichotomy i j with k|k|k
 ·exact absurd e (p i j hi hj k)
 ·exact k
 ·exact absurd e.symm (p j i hj hi k)
theorem qS.la {S:SS} (h:qS G K E S) (hi:Inv G K E) (hE:E.length=K.length) (aa:Ok G) {x:It} (hx:((fq G K).getD q [])[i]?=some x):(S.getD q []).getD i 0=wI G E q x:=by
 refine CW fun t=>Bw.2 ?_;rw[LM aa,R6 aa h.s (h.cls hi hE aa)]
 constructor
 ·intro k;exact⟨t,rfl,i,hx,k⟩
 ·rintro⟨n,e,j,e1,e2⟩;obtain rfl:t=n:=by omega
  obtain⟨h1,h2⟩:=Bc.1 hx;obtain⟨h3,h4⟩:=Bc.1 e1
  have:i=j:=RX (Se q) h1 h3 (h2.trans h4.symm)
  rw[this];exact e2
def xI (G:Gr) (x:It):Bool:=(nx G x).isNone&&decide (0<=x.1)
def gF (G:Gr) (l:List It) (row:List Nat) (n:Nat):List (Int×Int):=(List.range n).filterMap fun i=>if xI G (l.getD i (0,0))=true then some ((l.getD i (0,0)).1,(row.getD i 0:Int)) else none
theorem mG (l:List It) (row:List Nat) (n:Nat):gF G l row (n+1)=gF G l row n++(if xI G (l.getD n (0,0))=true then [((l.getD n (0,0)).1,(row.getD n 0:Int))] else []):=by
 unfold gF;rw[CH,List.filterMap_append]
 congr 1
 split <;> simp_all
theorem sV (l:List It) (row:List Nat) (n:Nat):(gF G l row n).length<=n:=by
 unfold gF
 have:=List.length_filterMap_le (fun i=>if xI G (l.getD i (0,0))=true then some ((l.getD i (0,0)).1,(row.getD i 0:Int)) else none) (List.range n)
 simpa using this
theorem OX (l:List It) (row:List Nat) (f:It->Nat) (h:∀i x,l[i]?=some x->row.getD i 0=f x):gF G l row l.length=(l.filter (xI G)).map fun x=>(x.1,(f x:Int)):=by
 have key:∀n,n<=l.length->gF G l row n=((l.take n).filter (xI G)).map fun x=>(x.1,(f x:Int)):=by
  intro n;induction n with
  | zero=>intro _;rfl
  | succ n ih =>
   intro hn;have e:l[n]?=some l[n]:=AD (by omega);rw[mG,ih (by omega),AL (by omega),B9,Bf,h n _ e]
   congr 1
   rw[Ag,e,Bp,Cc];split <;> rfl
 rw[key _ (Af _),Bn]
theorem Ta (p:Nat->Bool) (n:Nat):j6 (((List.range n).filter p).map (en G)):=by
 unfold j6;rw[Dk];refine((FF n).filter _).imp fun {a b} k=>?_;rw[lt_iff];unfold en;simp only;omega
theorem uB {S:SS} (h:qS G K E S) (hi:Inv G K E) (hE:E.length=K.length) (aa:Ok G) (hq:q<K.length):gF G (iU G (K.getD q [])) (S.getD q []) (iU G (K.getD q [])).length=iE G K E q:=by
 rw[OX _ _ (wI G E q) fun i x hx=>h.la hi hE aa (by rw[ic hq];exact hx)]
 have e1:iE G K E q=(((List.range G.rs.length).filter fun k=>tr (en G k∈iU G (K.getD q []))).map (en G)).map fun x=>(x.1,(wI G E q x:Int)):=by
  unfold iE mR;rw[Ef];generalize List.range G.rs.length=r;induction r with
  | nil=>rfl
  | cons k r ih =>
   rw[List.filterMap_cons,Cc];by_cases c:tr (en G k∈iU G (K.getD q []))=true
   ·rw[AC c,AC c];simp only[Bz,Function.comp];rw[ih];rfl
   ·rw[AI c,AI c];exact ih
 rw[e1]
 congr 1
 refine Gy ((kV _ _).filter _) (Ta _ _) fun z=>?_;rw[B7,Bm]
 constructor
 ·rintro⟨hz,hc⟩;unfold xI at hc;rw[Bb,Cg,EA]at hc;have hI:=fW.1 (jR hz)
  have hn:(sy G z.1).length<=z.2.toNat:=by
   unfold nx at hc;exact List.getElem?_eq_none_iff.1 hc.1
  have he:en G z.1.toNat=z:=by
   unfold en;rw[BI hc.2];exact Ea rfl (by simp only;omega)
  refine⟨z.1.toNat,B7.2 ⟨Cj.2 (by omega),fP.2 (by rw[he];exact hz)⟩,he⟩
 ·rintro⟨k,hk,rfl⟩;obtain⟨h1,h2⟩:=B7.1 hk;refine⟨fP.1 h2,?_⟩;unfold xI;rw[Bb,Cg,EA];unfold en nx;refine⟨?_,by simp only;omega⟩;simp only[Cq];exact BH (Af _)
end
end Lk
open Go.RowKit Go.ChangeShapes Go.WideShapes Go.ChangeAt
def jN (w:World) (B:Nat) (A:Option Addr) (zs:List Int):Prop :=
 zs.length≠0->∃g o,A=some ⟨g,o,none⟩/\g<B/\∀j,j<zs.length->w.cell? ⟨g,o+j,none⟩=some (.int .u32 (zs.getD j 0))
theorem jN.nil (w:World) (B:Nat) (A:Option Addr):jN w B A []:=fun h=>absurd rfl h
theorem jN.fp (h:jN w B A zs) (hk:∀g o,g<B->w'.cell? ⟨g,o,none⟩=w.cell? ⟨g,o,none⟩):jN w' B A zs:=fun hn=>by
 obtain⟨g,o,e,hg,hc⟩:=h hn;exact⟨g,o,e,hg,fun j hj=>(hk _ _ hg).trans (hc j hj)⟩
theorem jN.more (h:jN w B A zs) (hB:B<=B'):jN w B' A zs:=fun hn=>by
 obtain⟨g,o,e,hg,hc⟩:=h hn;exact⟨g,o,e,by omega,hc⟩
theorem jN.below (h:jN w B A zs) (hb:Below B' w w') (hB:B<=B'):jN w' B A zs :=
 h.fp fun g o hg=>hb.cell (p:=⟨g,o,none⟩) (Ah hg hB)
theorem jN.drewN (h:jN w B A zs) (n:Nat):jN (w.drewN n) B A zs:=h
theorem jN.drew (h:jN w B A zs):jN w.drew B A zs:=h
theorem jN.alloc (h:jN w B A zs) (hB:B<=w.heap.size) (o:Obj):jN (w.alloc o) B A zs :=
 h.fp fun g i hg=>Eo w o ⟨g,i,none⟩ (Ah hg hB)
theorem jN.grown (h:jN w B A zs) (hg:w.grownBy w' (some g)) (hB:B<=g) (hs:B<=w.heap.size):jN w' B A zs :=
 h.fp fun p o hp=>Ca (hg.block p (by omega) (fun e=>by injection e with e;omega))
theorem jN.take {w:World} {B:Nat} {A:Option Addr} {zs:List Int} (h:jN w B A zs) (k:Nat):jN w B A (zs.take k):=fun hn=>by
 have hl:(zs.take k).length<=zs.length:=by rw[Bd];omega
 obtain⟨g,o,e,hg,hc⟩:=h (by omega);refine⟨g,o,e,hg,fun j hj=>?_⟩;rw[hc j (by omega),L.fy hj,L.fy (by omega:j<zs.length),Di]
theorem jN.cell {o:Nat} (h:jN w B (some ⟨g,o,none⟩) zs) (j:Nat) (hj:j<zs.length):w.cell? ⟨g,o+j,none⟩=some (.int .u32 (zs.getD j 0)):=by
 obtain⟨g',o',e,_,hc⟩:=h (by omega);injection e with e;injection e with e1 e2;subst e1 e2;exact hc j hj
def iA (w:World) (g:Nat) (ls:List Int):Prop:=w.heap[g]?=some (.cells (ls.map (Value.int .u32)).toArray 44 (0,0))
theorem iA.lt (h:iA w g ls):g<w.heap.size:=by
 rcases Bx g w.heap.size with aa|hge
 ·exact aa
 ·unfold iA at h;rw[Ee hge]at h;cases h
theorem iA.cell (h:iA w g ls) (i:Nat) (hi:i<ls.length):w.cell? ⟨g,i,none⟩=some (.int .u32 (ls.getD i 0)):=by
 rw[AF w g i _ _ _ h];simp[hi,List.getD]
theorem iA.frozen (h:iA w g ls) (i:Nat):w.frozen? ⟨g,i,none⟩=false:=AH w g i _ _ h
theorem iA.drewN (h:iA w g ls) (n:Nat):iA (w.drewN n) g ls:=h
theorem iA.drew (h:iA w g ls):iA w.drew g ls:=h
theorem iA.alloc (h:iA w g ls) (o:Obj):iA (w.alloc o) g ls:=(Bs w o g h.lt).trans h
theorem iA.jY (h:iA w g ls) (i:Nat) (z:Int):iA (w.setCell ⟨g,i,none⟩ (.int .u32 z)) g (ls.set i z):=by
 unfold iA at h ⊢;rw[AZ w g i _ _ _ h]
 congr 2
 apply Ep;simp[Cv]
theorem iA.jr (h:iA w g ls) (hp:g≠p.block) (u:Value):iA (w.setCell p u) g ls:=(AU w p u g hp).trans h
theorem iA.below (h:iA w g ls) (hb:Below B w w') (hg:g<B):iA w' g ls:=(hb.block g hg).trans h
theorem iA.grown {row:Option Nat} (h:iA w g ls) (hb:w.grownBy w' row) (hg:some g≠row):iA w' g ls:=(hb.block g h.lt hg).trans h
theorem iA.zD {o:Nat} {pre xs post:List Int} (h:iA w g (pre++xs++post)) (ho:o=pre.length) (k:Nat) (hk:k<xs.length):w.cell? ⟨g,o+k,none⟩=some (.int .u32 (xs.getD k 0)):=by
 rw[h.cell (o+k) (by simp;omega),ho,L.jU pre xs post k hk]
theorem iA.rd (h:iA w g ls) (o n:Nat) (hn:o+n<=ls.length) (hB:g<B):jN w B (some ⟨g,o,none⟩) ((ls.drop o).take n):=fun _=>by
 refine⟨g,o,rfl,hB,fun j hj=>?_⟩;have aa:j<n:=by rw[Bd]at hj;omega
 rw[h.cell (o+j) (by omega),L.fy hj,L.fy (by omega:o+j<ls.length),Di,Dt]
theorem iA.o4 (h:iA w g ls) (hB:g<B):jN w B (some ⟨g,0,none⟩) ls:=by
 have:=h.rd 0 ls.length (by omega) hB;simpa using this
theorem Mm:(prog.info? 44).map (fun i=>(i.zero,i.size,i.bytes))=some (some (.int .u32 0),1,4):=by kernel_rfl
theorem Jy (n:Nat):(List.replicate n (0:Int)).map (Value.int .u32)=List.replicate n (.int .u32 0):=by simp
theorem Js (h:w.ownsRow base 44 1 (.slice (some ⟨g,0,none⟩) n n) n (ls.map (Value.int .u32))):iA w g ls:=by
 rcases h.2 with⟨he,_⟩|⟨g',cap,cur,he,hb,hg,hn,hm,hs,ht⟩
 ·cases he
 ·injection he with e1 e2 e3;injection e1 with e1;injection e1 with e1;subst e1 e3;unfold iA;rw[hg,<-ht,Cf (by simp[hs])]
theorem RI {rest:List Oper} {o:Oper} {a:Act} {Q:Exit->Act->World->Prop} (hg:o.guard=none) (l c:Operand) (t:TypeId) (ac:o.op=Op.makeSlice t l c) (ht:prog.underlying t=some (.slice 44)) (n:Nat) (L C:Int) (hl:a.eval l=.int .i64 L) (hc:a.eval c=.int .i64 C) (hL:L=(n:Int)) (hC:C=(n:Int)) (hn:n<=35184372088832) (hK:∀w',iA w' w.heap.size (List.replicate n 0)->Below w.heap.size w w'->w.heap.size<w'.heap.size->wpList prog ops Q rest (a.put o.dst (.slice (some ⟨w.heap.size,0,none⟩) n n)) w') :
  wpList prog ops Q (o::rest) a w:=by
 obtain⟨i,hi,ad,ae,af⟩:=Cs Mm;refine wpList_make_full w hg l c t ac w.heap.size 44 i (.int .u32 0) 1 ht hi ad ae .i64 .i64 L C n hl hc hL hC (by rw[af];omega) (by unfold maxLen;omega) (Af _) fun w' aa b=>?_
 have ab:iA w' w.heap.size (List.replicate n 0):=by
  refine Js (base:=w.heap.size) (n:=n) ?_;rw[Jy]
  have e:(madeCells (Value.int IntKind.u32 0).cells (n*1)).toList=List.replicate n (Value.int .u32 0):=by
   rw[DG];exact DU _ _
  rw[e]at aa;exact aa
 exact hK w' ab ⟨b.os,b.tape,b.output,b.size,fun k hk=>b.block k hk (by simp)⟩ ab.lt
end Go.Proofs.YtcmhaemaophplaaGreat
namespace Go.Proofs.YtcmhaemaophplaaGreat
namespace S
def bit (n:Int):Nat:=if 0<=n/\n<=31 then 2 ^ n.toNat else 0
def of (l:List Int):Nat:=l.foldl (fun s n=>s ||| bit n) 0
theorem oD (n:Int):bit n<4294967296:=by
 unfold bit;split
 ·have:2 ^ n.toNat<=2 ^ 31:=BQ (by decide) (by omega)
  omega
 ·omega
theorem kT (h:k<=31):bit k=2 ^ k:=by unfold bit;rw[AC (by omega)];simp
theorem oE {n:Int} (h:n<0):bit n=0:=by unfold bit;rw[AI (by omega)]
theorem sa {n:Int} (h:31<n):bit n=0:=by unfold bit;rw[AI (by omega)]
theorem S4 {a:Nat} (ha:a<4294967296) (hb:b<4294967296):a ||| b<4294967296:=by
 have:=Nat.or_lt_two_pow (n:=32) (x:=a) (y:=b) (by omega) (by omega);omega
theorem wR (l:List Int) (n:Int):of (l++[n])=of l ||| bit n:=by unfold of;rw[Dj];rfl
theorem of_lt (l:List Int):of l<4294967296:=by
 unfold of
 suffices ∀(l:List Int) (a:Nat),a<4294967296->l.foldl (fun s n=>s ||| bit n) a<4294967296 from this l 0 (by omega)
 intro l;induction l with
 | nil=>intro a h;exact h
 | cons n r ih=>intro a h;exact ih _ (S4 h (oD n))
theorem yK (n:Int):of [n]=bit n:=by unfold of;simp
end S
theorem Ld (n:Int) (h:0<=n):(2:Int) ^ (min n.toNat 32) % 4294967296=(S.bit n:Int):=by
 by_cases hb:n<=31
 ·obtain⟨k,rfl⟩:=Int.eq_ofNat_of_zero_le h;rw[S.kT (by omega),show min (k:Int).toNat 32=k by omega];have hp:2 ^ k<=2 ^ 31:=BQ (by decide) (by omega);have e:(2:Int) ^ k=((2 ^ k:Nat):Int):=by simp
  rw[e];generalize 2 ^ k=a at *;omega
 ·rw[S.sa (by omega),show min n.toNat 32=32 by omega];decide
theorem OA (n:Int) (w:World) :
  Calls prog 197 #[.int .i64 n] w fun e w'=>e=.returned (.int .u32 (S.bit n))/\w'=w:=by
 go_enter func197,ntmps197
 by_cases h:n<0
 ·have e:=aA (S.oE h);go_wp2;go_ret
  rw[e.o];exact⟨rfl,rfl⟩
 ·have h':0<=n:=by omega
  have e:=aA (Ld n h');go_wp2;go_ret
  exact⟨aU e.o,rfl⟩
theorem Qs (A:Option Addr) (c B:Nat) (l:List Int) (w:World) (hr:gd w B A l) (hn:l.length<=9223372036854775807) :
  Calls prog 190 #[.slice A l.length c] w fun e w'=>e=.returned (.int .u32 (S.of l))/\∃n,w'=w.drewN n:=by
 go_enter func190,ntmps190
 go_wp2;go_loopw [8,3] (fun vi vs wr=>∃(k:Nat) (n:Nat),k<=l.length/\vi=.int .i64 k/\vs=.int .u32 (S.of (l.take k))/\wr=w.drewN n) (fun vi _ _=>l.length-(intOf vi).toNat)
 case atStart=>exact⟨0,0,by omega,rfl,rfl,rfl⟩
 case round =>
  obtain⟨k,n,hk,rfl,rfl,rfl⟩:=hrel;by_cases aa:k<l.length
  ·obtain⟨g,o,rfl,_,hc⟩:=hr (by omega);have ab:=hc k aa;have ac:=aA (show S.of (l.take k) ||| S.bit (l.getD k 0)=S.of (l.take (k+1)) by rw[L.jB l k aa,S.wR]);have e:=aA (DS (S.of (l.take k)) (S.bit (l.getD k 0)) (S.of_lt _) (S.oD _));generalize l.getD k 0=z at *;clear hc;go_wp2_with fail
   refine(OA _ _).mono ?_;rintro _ _ ⟨rfl,rfl⟩;go_wp2_with (rw[e.o,ac.o])
   go_roundw
   case rel=>exact⟨k+1,_,by omega,by go_num,rfl,rfl⟩
   case measure=>simp[intOf];omega
  ·obtain rfl:k=l.length:=by omega
   rw[Bn];go_wp2;go_ret
   exact⟨rfl,_,rfl⟩
theorem PW (hk:k<31):(2:Int)*((2 ^ k:Nat):Int)=((2 ^ (k+1):Nat):Int)/\((2 ^ k:Nat):Int)<=1073741824:=by
 have hp:2 ^ k<=2 ^ 30:=BQ (by decide) (by omega);rw[Nat.pow_succ];generalize 2 ^ k=a at *;omega
theorem KH (n:Int) (w:World) (hn:n<=9223372036854775807) :
  Calls prog 28 #[.int .i64 n] w fun e w'=>e=.returned (.int .u32 (S.bit n))/\∃q,w'=w.drewN q:=by
 by_cases h1:n<0
 ·have e:=aA (S.oE h1)
  go_enter func28,ntmps28
  go_wp2;go_ret
  rw[e.o];exact⟨rfl,0,rfl⟩
 ·by_cases h2:31<n
  ·have e:=aA (S.sa h2)
   go_enter func28,ntmps28
   go_wp2;go_ret
   rw[e.o];exact⟨rfl,0,rfl⟩
  ·have h3:0<=n:=by omega
   have h4:n<=31:=by omega
   obtain⟨m,rfl⟩:=Int.eq_ofNat_of_zero_le h3;have hm:m<=31:=by omega
   have e:=aA (S.kT hm);clear hn
   go_enter func28,ntmps28
   go_wp2
   go_loop [4,3] (fun vi vx=>∃k:Nat,k<=m/\vi=.int .i64 k/\vx=.int .u32 ((2 ^ k:Nat):Int)) (fun vi _=>m-(intOf vi).toNat)
   case atStart=>exact⟨0,by omega,rfl,rfl⟩
   case round =>
    obtain⟨k,hk,rfl,rfl⟩:=hrel;by_cases aa:k<m
    ·have hp:=PW (k:=k) (by omega);have HP:=aA hp.1;have hq:=hp.2;have ab:(0:Int)<=((2 ^ k:Nat):Int):=Int.natCast_nonneg _;clear hp;generalize ((2 ^ k:Nat):Int)=a at *;go_wp2
     go_round
     case rel=>exact⟨k+1,by omega,by go_num,by rw[<-HP.o];go_num⟩
     case measure=>simp[intOf];omega
    ·obtain rfl:k=m:=by omega
     go_wp2;go_ret
     rw[e.o];exact⟨rfl,0,rfl⟩
open Go.RowKit Go.ChangeShapes Go.WideShapes Go.ChangeAt
section
variable {α:Type} {m:Nat} {f:α->List Value} {T:TypeId}
theorem GQ {o:Oper} {a:Act} {Q:Exit->Act->World->Prop} {K:Act->World->Prop} (s x:Operand) (t:TypeId) (ho:o.op=.call {callee:=.builtin .append,args:=#[s,x],argTypes:=#[t,t]}) (ht:prog.underlying t=some (.slice T)) (z:Value) (bytes:Nat) (aa:(prog.info? T).map (fun i=>(i.zero,i.size,i.bytes))=some (some z,m,bytes)) (ad:z.cells.size=m) (hm:0<m) (ae:bytes<=100) (hf:∀x,(f x).length=m) (h1:∀x,∀u∈f x,u.oneCell'=true) (base:Nat) (v:Value) (xs:List α) (hs:a.eval s=v) (ac:aJ T m f w base v xs) (g c:Nat) (y:α) (hx:a.eval x=.slice (some ⟨g,0,none⟩) 1 c) (hz:∀j u,(f y)[j]?=some u->w.cell? ⟨g,j,none⟩=some u) (af:xs.length<=1000000) (ab:base<=w.heap.size) (hK:∀v' w',aJ T m f w' base v' (xs++[y])->w.grownBy w' v.ownBlock->K (a.put o.dst v') w') :
  o.wp prog a w K Q:=by
 obtain⟨i,hi,ag,ah,ai⟩:=Cs aa;refine EC w s x t ho base T i z m bytes ht hi ag ah ai ad hm v xs.length (xs.flatMap f) hs ac ⟨g,0,none⟩ 1 c (f y) hx (by rw[hf,Ec]) ?_ (h1 y) (by unfold maxLen;omega) (by have:=DH (show xs.length+1<=1000001 by omega) ae;omega) ab fun v' w' h2 h3 _=>hK v' w' ?_ h3
 ·intro j u hj;rw[Go.WideShapes.add_plain,BG];exact hz j u hj
 ·unfold aJ;rw[AW,B4,Cw];exact h2
theorem Ki {rest:List Oper} {o:Oper} {a:Act} {Q:Exit->Act->World->Prop} (ad:o.guard=none) (s x:Operand) (t:TypeId) (ho:o.op=.call {callee:=.builtin .append,args:=#[s,x],argTypes:=#[t,t]}) (ht:prog.underlying t=some (.slice T)) (z:Value) (bytes:Nat) (aa:(prog.info? T).map (fun i=>(i.zero,i.size,i.bytes))=some (some z,m,bytes)) (ae:z.cells.size=m) (hm:0<m) (af:bytes<=100) (hf:∀x,(f x).length=m) (h1:∀x,∀u∈f x,u.oneCell'=true) (base:Nat) (v:Value) (xs:List α) (hs:a.eval s=v) (ac:aJ T m f w base v xs) (g c:Nat) (y:α) (hx:a.eval x=.slice (some ⟨g,0,none⟩) 1 c) (hz:∀j u,(f y)[j]?=some u->w.cell? ⟨g,j,none⟩=some u) (ag:xs.length<=1000000) (ab:base<=w.heap.size) (hK:∀v' w',aJ T m f w' base v' (xs++[y])->w.grownBy w' v.ownBlock->(v'.ownBlock=v.ownBlock\/v'.ownBlock=some w.heap.size)->wpList prog ops Q rest (a.put o.dst v') w') :
  wpList prog ops Q (o::rest) a w:=by
 obtain⟨i,hi,ah,ai,aj⟩:=Cs aa;refine wpList_append_own_at w ad s x t ho base T i z m bytes ht hi ah ai aj ae hm v xs.length (xs.flatMap f) hs ac ⟨g,0,none⟩ 1 c (f y) hx (by rw[hf,Ec]) ?_ (h1 y) (by unfold maxLen;omega) (by have:=DH (show xs.length+1<=1000001 by omega) af;omega) ab fun v' w' h2 h3 _ h5=>hK v' w' ?_ h3 h5
 ·intro j u hj;rw[Go.WideShapes.add_plain,BG];exact hz j u hj
 ·unfold aJ;rw[AW,B4,Cw];exact h2
theorem LP {o:Oper} {a:Act} {Q:Exit->Act->World->Prop} {K:Act->World->Prop} (s x:Operand) (t:TypeId) (ho:o.op=.call {callee:=.builtin .append,args:=#[s,x],argTypes:=#[t,t]}) (ht:prog.underlying t=some (.slice T)) (z:Value) (bytes:Nat) (ab:(prog.info? T).map (fun i=>(i.zero,i.size,i.bytes))=some (some z,m,bytes)) (ah:z.cells.size=m) (hm:0<m) (ai:bytes<=100) (hf:∀x,(f x).length=m) (h1:∀x,∀u∈f x,u.oneCell'=true) (base:Nat) (v:Value) (xs:List α) (hs:a.eval s=v) (aa:aJ T m f w base v xs) (B n c:Nat) (A:Option Addr) (ys:List α) (hx:a.eval x=.slice A n c) (hn:n=ys.length) (hr:jm m f w B A ys) (aj:xs.length+ys.length<=1000000) (ac:base<=w.heap.size) (hK:∀v' w',aJ T m f w' base v' (xs++ys)->w.grownBy w' v.ownBlock->K (a.put o.dst v') w') :
  o.wp prog a w K Q:=by
 obtain⟨i,hi,ak,al,am⟩:=Cs ab;subst hn;rcases A with _|ad
 ·have hz:ys=[]:=by
   rcases CY ys.length with h0|h0
   ·exact BB h0
   ·obtain⟨g,o',h,_⟩:=hr (by omega);cases h
  subst hz;have ae:=zg (P:=prog) w base t o.type T i m ht hi v xs.length _ aa c;unfold Oper.wp;simp[execOp,ho,resolve,invoke,builtin,hs,hx,ae,Result.andThen];exact hK v w (by simpa using aa) (AJ _ _)
 ·refine EC w s x t ho base T i z m bytes ht hi ak al am ah hm v xs.length (xs.flatMap f) hs aa ad ys.length c (ys.flatMap f) hx (tH hf ys) ?_ ?_ (by unfold maxLen;omega) (by have:=DH (show xs.length+ys.length<=1000000 by omega) ai;omega) ac fun v' w' h2 h3 _=>hK v' w' ?_ h3
  ·intro j u hj;have ao:j<ys.length*m:=by rw[<-tH hf ys];exact(Bc.1 hj).1
   have hd:j / m<ys.length:=by
    rcases Bx (j / m) ys.length with h|h
    ·exact h
    ·have:=Ds m h
     have:=Nat.div_mul_le_self j m
     omega
   obtain⟨g,o',h,_,hc⟩:=hr (fun e=>by rw[e]at hd;exact absurd hd (De _))
   replace h:=DI h
   subst h;have af:j=j / m*m+j % m:=by rw[Nat.mul_comm];exact(Nat.div_add_mod j m).symm
   have ag:=hj;rw[af,wU hf ys _ _ hd (Nat.mod_lt _ hm)]at ag
   have:=hc _ hd _ _ ag
   rw[Go.WideShapes.add_plain];rw[Nat.add_assoc,<-af]at this;exact this
  ·intro u hu;obtain⟨y,_,hy⟩:=CG.1 hu;exact h1 y u hy
  ·unfold aJ;rw[AW,B4];exact h2
theorem K6 {o:Oper} {a:Act} {Q:Exit->Act->World->Prop} {K:Act->World->Prop} (s x:Operand) (t:TypeId) (ho:o.op=.call {callee:=.builtin .append,args:=#[s,x],argTypes:=#[t,t]}) (ht:prog.underlying t=some (.slice T)) (z:Value) (bytes:Nat) (aa:(prog.info? T).map (fun i=>(i.zero,i.size,i.bytes))=some (some z,m,bytes)) (ad:z.cells.size=m) (hm:0<m) (ae:bytes<=100) (hf:∀x,(f x).length=m) (h1:∀x,∀u∈f x,u.oneCell'=true) (base:Nat) (v:Value) (xs:List α) (hs:a.eval s=v) (ac:aJ T m f w base v xs) (g c:Nat) (y:α) (hx:a.eval x=.slice (some ⟨g,0,none⟩) 1 c) (hz:∀j u,(f y)[j]?=some u->w.cell? ⟨g,j,none⟩=some u) (af:xs.length<=1000000) (ab:base<=w.heap.size) (hK:∀v' w',aJ T m f w' base v' (xs++[y])->w.grownBy w' v.ownBlock->(v'.ownBlock=v.ownBlock\/v'.ownBlock=some w.heap.size)->K (a.put o.dst v') w') :
  o.wp prog a w K Q:=by
 obtain⟨i,hi,ag,ah,ai⟩:=Cs aa;obtain⟨v',w',hr,h2,h3,_,h5⟩:=run_append_own_at (P:=prog) w base t o.type T i z m bytes ht hi ag ah ai ad hm v xs.length (xs.flatMap f) ac ⟨g,0,none⟩ 1 c (f y) (by rw[hf,Ec]) (fun j u hj=>by rw[Go.WideShapes.add_plain,BG];exact hz j u hj) (h1 y) (by unfold maxLen;omega) (by have:=DH (show xs.length+1<=1000001 by omega) ae;omega) ab;unfold Oper.wp execOp;simp only[ho,resolve,invoke,builtin,Et,Dl,EL,List.map_toArray,Bz,Du,hs,hx,hr];refine hK _ _ ?_ h3 h5;unfold aJ;rw[AW,B4,Cw];exact h2
theorem JM (w:World):aJ T m f (w.alloc (.cells #[] T)) w.heap.size (.slice (some ⟨w.heap.size,0,none⟩) 0 0) [] :=
 ⟨by simp,.inr ⟨w.heap.size,0,#[],rfl,Af _,AG w _,Af _,by unfold maxLen;omega,by simp,by simp⟩⟩
end
end Go.Proofs.YtcmhaemaophplaaGreat
namespace Go.Proofs.YtcmhaemaophplaaGreat
theorem RM:(match prog.underlying 60 with|some (.array _ _)|some (.struct _)=>true|_=>false)=true:=by rw[underlying60]
theorem Jm:Maps.Keyed prog 60:=Maps.Keyed.of_law (deep_law (m:=2) (by omega) (by kernel_rfl) (by kernel_rfl) RM)
theorem R9 (x:Au.It) (h:Gm.In x.1/\Gm.In x.2):∃l,keyOf prog 60 (lI x)=some l:=by
 have h1:(Lit.int .i64 x.1).wf=true:=DQ (by unfold Gm.In at h;omega);have h2:(Lit.int .i64 x.2).wf=true:=DQ (by unfold Gm.In at h;omega);have hk:prog.keyType 60=true:=by kernel_rfl
 have hc:prog.cellsOf 60=2:=by kernel_rfl
 have aa:prog.cellsOf 3=1:=by kernel_rfl
 unfold keyOf;rw[underlying60];have ab:(lI x).formed prog 60=true:=by simp[Value.formed,underlying60,hc]
 have hl:∃ls,prog.keyLits (prog.types.size+1) 60 (lI x).cells.toList=some ls:=by
  obtain⟨n,hn⟩:∃n,prog.types.size=n+1:=⟨prog.types.size-1,by have:0<prog.types.size:=Cy (by kernel_rfl);omega⟩
  rw[hn];simp[Program.keyLits,underlying60,underlying3,hc,aa,Value.cells,h1,h2]
 obtain⟨ls,ac⟩:=hl;simp only[hk,ab,ac];exact⟨_,rfl⟩
def vy:Mw.qU prog 60 Au.It where
 enc x:=lI x
 ok x:=Gm.In x.1/\Gm.In x.2
 key x h:=R9 x h
 inj x y _ _ h:=by
  injection h with h;simp at h;exact Ea h.1 h.2
theorem xu:(prog.info? 60).map (fun i=>(i.zero,i.size,i.bytes))=some (some (.agg #[.int .i64 0,.int .i64 0]),2,16):=by kernel_rfl
theorem sM (x:Int×Int):∀u∈fO x,u.oneCell'=true:=fun u hu=>by
 simp[fO]at hu;rcases hu with rfl|rfl <;> rfl
section
variable {α:Type} {m:Nat} {f:α->List Value}
def lY (m:Nat) (f:α->List Value) (w:World) (B:Nat) (A:Option Addr) (rows:List (List α)):Prop :=
 rows.length≠0->∃g o,A=some ⟨g,o,none⟩/\g<B/\∀i (h:i<rows.length),∃A' c',w.cell? ⟨g,o+i,none⟩=some (.slice A' rows[i].length c')/\rows[i].length<=c'/\c'<=9223372036854775807/\jm m f w B A' rows[i]
theorem lY.nil (w:World) (B:Nat) (A:Option Addr):lY m f w B A []:=fun h=>absurd rfl h
theorem lY.fp {w w':World} {B:Nat} {A:Option Addr} {rows:List (List α)} (h:lY m f w B A rows) (hk:∀g o,g<B->w'.cell? ⟨g,o,none⟩=w.cell? ⟨g,o,none⟩):lY m f w' B A rows:=fun hn=>by
 obtain⟨g,o,e,hg,hc⟩:=h hn;refine⟨g,o,e,hg,fun i hi=>?_⟩;obtain⟨A1,c1,h1,h2,h3,h4⟩:=hc i hi;exact⟨A1,c1,(hk _ _ hg).trans h1,h2,h3,h4.fp hk⟩
theorem lY.below {rows:List (List α)} (h:lY m f w B A rows) (hb:Below B' w w') (hB:B<=B'):lY m f w' B A rows :=
 h.fp fun g o hg=>hb.cell (p:=⟨g,o,none⟩) (Ah hg hB)
theorem lY.more {w:World} {B B':Nat} {A:Option Addr} {rows:List (List α)} (h:lY m f w B A rows) (hB:B<=B'):lY m f w B' A rows:=fun hn=>by
 obtain⟨g,o,e,hg,hc⟩:=h hn;refine⟨g,o,e,by omega,fun i hi=>?_⟩;obtain⟨A1,c1,h1,h2,h3,h4⟩:=hc i hi;exact⟨A1,c1,h1,h2,h3,h4.more hB⟩
def qG (T:TypeId) (m:Nat) (f:α->List Value) (w:World) (base N:Nat) (A:Option Addr) (xs:List α):Prop :=
 xs.length≠0->∃(g:Nat) (cur:Array Value),A=some ⟨g,0,none⟩/\base<=g/\g<N/\w.heap[g]?=some (.cells cur T (0,0))/\∀i (h:i<xs.length) j u,(f xs[i])[j]?=some u->cur[i*m+j]?=some u
section
variable {T:TypeId} {w w':World} {base base' N N':Nat} {A:Option Addr} {xs:List α}
theorem qG.nil (T:TypeId) (w:World) (base N:Nat) (A:Option Addr):qG T m f w base N A []:=fun h=>absurd rfl h
theorem qG.fp (h:qG T m f w base N A xs) (hk:∀g cur,base<=g->g<N->w.heap[g]?=some (.cells cur T (0,0))->w'.heap[g]?=some (.cells cur T (0,0))):qG T m f w' base N A xs:=fun hn=>by
 obtain⟨g,cur,e,hb,hN,hh,hc⟩:=h hn;exact⟨g,cur,e,hb,hN,hk g cur hb hN hh,hc⟩
theorem qG.more (h:qG T m f w base N A xs) (hN:N<=N'):qG T m f w base N' A xs:=fun hn=>by
 obtain⟨g,cur,e,hb,h1,hh⟩:=h hn;exact⟨g,cur,e,hb,by omega,hh⟩
theorem qG.less (h:qG T m f w base N A xs) (hb:base'<=base):qG T m f w base' N A xs:=fun hn=>by
 obtain⟨g,cur,e,h1,hN,hh⟩:=h hn;exact⟨g,cur,e,by omega,hN,hh⟩
theorem qG.rd (h:qG T m f w base N A xs):jm m f w N A xs:=fun hn=>by
 obtain⟨g,cur,e,hb,hN,hh,hc⟩:=h hn;refine⟨g,0,e,hN,fun i hi j u hu=>?_⟩;rw[AF w g _ _ _ _ hh,BG];exact hc i hi j u hu
theorem iI.uS (h:iI T f w g xs) (hf:∀x,(f x).length=m) (hb:base<=g) (hN:g<N):qG T m f w base N (some ⟨g,0,none⟩) xs:=fun _=>by
 refine⟨g,_,rfl,hb,hN,h,fun i hi j u hu=>?_⟩;have hj:j<m:=by rw[<-hf xs[i]];exact(Bc.1 hu).1
 rw[Az,wU hf xs i j hi hj];exact hu
theorem aJ.uS {c:Nat} (h:aJ T m f w base (.slice A n c) xs) (hf:∀x,(f x).length=m):qG T m f w base w.heap.size A xs:=fun hn=>by
 rcases h.2 with⟨e,h0⟩|⟨g,cap,cur,e,hb,hg,h1,hm,hs,ht⟩
 ·exact absurd h0 hn
 ·injection e with e1 e2 e3;refine⟨g,cur,e1,hb,(Ad.1 hg).1,hg,fun i hi j u hu=>?_⟩;have hj:j<m:=by rw[<-hf xs[i]];exact(Bc.1 hu).1
  have h2:(cur.toList.take (xs.length*m))[i*m+j]?=(xs.flatMap f)[i*m+j]?:=by rw[ht]
  have aa:i*m+j<xs.length*m:=by
   have:=Ds m (show i+1<=xs.length by omega)
   rw[EU,Ec]at this;omega
  rw[CO aa,El,wU hf xs i j hi hj]at h2;rw[h2];exact hu
end
abbrev RW (α:Type):=List α×Option Addr×Nat
def je (r:RW α):List Value:=[.slice r.2.1 r.1.length r.2.2]
theorem tD (r:RW α):(je r).length=1:=rfl
theorem Iu (r:RW α):∀u∈je r,u.oneCell'=true:=fun u hu=>by
 simp[je]at hu;subst hu;rfl
def bO (T:TypeId) (m:Nat) (f:α->List Value) (w:World) (base N:Nat) (r:RW α):Prop:=r.1.length<=r.2.2/\r.2.2<=9223372036854775807/\qG T m f w base N r.2.1 r.1
theorem bO.nil (T:TypeId) (w:World) (base N:Nat):bO T m f w base N (([],none,0):RW α):=⟨Af _,by simp,qG.nil _ _ _ _ _⟩
theorem bO.fp {T:TypeId} {w w':World} {base N:Nat} {r:RW α} (h:bO T m f w base N r) (hk:∀g cur,base<=g->g<N->w.heap[g]?=some (.cells cur T (0,0))->w'.heap[g]?=some (.cells cur T (0,0))):bO T m f w' base N r:=⟨h.1,h.2.1,h.2.2.fp hk⟩
theorem bO.below {T:TypeId} {r:RW α} (h:bO T m f w base N r) (hb:Below B w w') (hN:N<=B):bO T m f w' base N r:=h.fp fun g _ _ hg hc=>(hb.block g (Ah hg hN)).trans hc
theorem bO.more {T:TypeId} {w:World} {base N N':Nat} {r:RW α} (h:bO T m f w base N r) (hN:N<=N'):bO T m f w base N' r:=⟨h.1,h.2.1,h.2.2.more hN⟩
theorem bO.less {T:TypeId} {w:World} {base base' N:Nat} {r:RW α} (h:bO T m f w base N r) (hb:base'<=base):bO T m f w base' N r:=⟨h.1,h.2.1,h.2.2.less hb⟩
theorem lY.of {T:TypeId} {rs:List (RW α)} (hB:g<B) (hc:∀i (h:i<rs.length),w.cell? ⟨g,i,none⟩=some (.slice rs[i].2.1 rs[i].1.length rs[i].2.2)) (hr:∀r∈rs,bO T m f w base B r):lY m f w B (some ⟨g,0,none⟩) (rs.map (·.1)):=fun _=>by
 refine⟨g,0,rfl,hB,fun i hi=>?_⟩;have aa:i<rs.length:=by simpa using hi
 obtain⟨h1,h2,h3⟩:=hr _ (AE aa);rw[C3];exact⟨rs[i].2.1,rs[i].2.2,by rw[BG];exact hc i aa,h1,h2,h3.rd⟩
theorem iI.Jo {T T2:TypeId} {rs:List (RW α)} (h:iI T je w g rs) (hB:g<B) (hr:∀r∈rs,bO T2 m f w base B r):lY m f w B (some ⟨g,0,none⟩) (rs.map (·.1)) :=
 lY.of hB (fun i hi=>by have:=h.cell tD i 0 hi _ rfl;rw[DG,Dp]at this;exact this) hr
theorem SM (xs:List (RW α)) (i:Nat) (y:RW α):(xs.flatMap je).set i (.slice y.2.1 y.1.length y.2.2)=(xs.set i y).flatMap je:=by
 induction xs generalizing i with
 | nil=>simp
 | cons x r ih =>
  cases i with
  | zero=>rfl
  | succ i =>
   show _::(r.flatMap je).set i _=_::(r.set i y).flatMap je
   rw[ih i]
theorem iI.xa {T:TypeId} {xs:List (RW α)} (h:iI T je w g xs) (i:Nat) (y:RW α) (A:Option Addr) (n c:Nat) (h1:y.2.1=A) (h2:y.1.length=n) (h3:y.2.2=c):iI T je (w.setCell ⟨g,i,none⟩ (.slice A n c)) g (xs.set i y):=by
 subst h1 h2 h3;unfold iI at h ⊢;rw[AZ _ g _ _ _ _ h]
 congr 2
 apply Ep;rw[<-SM xs i y];simp
end
end Go.Proofs.YtcmhaemaophplaaGreat
namespace Go.Mw
open Go.RowKit Go.Maps
section
variable {P:Program} {kt:TypeId} {κ:Type} {E:qU P kt κ} {w:World} {b:Nat} {l:List (κ×Value)}
def jM (E:qU P kt κ) (w:World) (b:Nat) (l:List (κ×Value)):Prop :=
 ∃es clock,w.heap[b]?=some (.map es clock)/\es.toList.map (fun e=>(e.key,e.val))=l.map (fun p=>(E.enc p.1,p.2))/\(∀p∈l,E.ok p.1)/\(l.map Prod.fst).Nodup/\(∀e∈es.toList,e.born<clock)/\(es.toList.map (·.born)).Nodup
theorem jM.is (h:jM E w b l):fx E w b l:=by
 obtain⟨es,clock,h1,h2,h3,h4,_⟩:=h;exact⟨es,clock,h1,h2,h3,h4⟩
theorem jM.lt (h:jM E w b l):b<w.heap.size:=h.is.lt
theorem jM.block (h:jM E w b l) (hg:w'.heap[b]?=w.heap[b]?):jM E w' b l:=by
 obtain⟨es,clock,hb,r⟩:=h;exact⟨es,clock,hg.trans hb,r⟩
variable [DecidableEq κ]
def Tp (E:qU P kt κ) (t:TypeId) (w:World) (b:Nat) (l:List (κ×Value)) (x:κ) (c:Value):Prop :=
 b<w.heap.size/\∀w2:World,w2.heap[b]?=w.heap[b]?->∀v:Value,∃w3,(Instr.entryStore t (.map (some b)) c v).run P w2=.ok () w3/\jM E w3 b (gZ l x v)/\w2.grownBy w3 (some b)
theorem Q9 {es:List MapEntry} {e:MapEntry} {j:Nat} (hn:(es.map (·.born)).Nodup) (h:es[j]?=some e):es.findIdx? (fun x=>(x.born:Int)==(e.born:Int))=some j:=by
 induction es generalizing j with
 | nil=>simp at h
 | cons y r ih =>
  rw[Bz,ED]at hn;rw[List.findIdx?_cons];cases j with
  | zero =>
   simp only[Am,EI]at h;subst h;simp
  | succ j =>
   rw[Ap]at h
   have aa:((y.born:Int)==(e.born:Int))=false:=by
    rw[Ba];intro q;have q:y.born=e.born:=by omega
    exact hn.1 (Bm.2 ⟨e,Co h,q.symm⟩)
   rw[aa,ih hn.2 h];simp
theorem J7 {x:κ} {α:Type} {v:α}:∀ {l:List (κ×α)},fF l x=some v->gZ l x v=l
 | (k,u)::r,h=>by
  unfold fF at h;unfold gZ;by_cases e:k=x
  ·rw[AC e]at h ⊢;injection h with h;rw[h]
  ·rw[AI e]at h ⊢;rw[J7 h]
theorem sK {t e:TypeId} (h:jM E w b l) (K:Keyed P kt) (ht:P.underlying t=some (.map kt e)) {z:Value} (hz:(zeroValue e).run P w=.ok z w) {x:κ} (hx:E.ok x) :
  ∃(u c:Value) (w':World),(Instr.mapEntry t (.map (some b)) (E.enc x)).run P w=.ok (.tuple #[u,c]) w'/\Tp E t w' b l x c/\fx E w' b (gZ l x ((fF l x).getD z))/\w.grownBy w' (some b):=by
 obtain⟨lx,ab⟩:=E.key x hx;have h0:=h;obtain⟨es,clock,hb,he,hf⟩:=jC h.is K hx;obtain⟨es0,clock0,k,ak,hk,m,n,ac⟩:=h0;rw[hb]at k;injection k with k;injection k with k aj;subst k aj;have ah:b<w.heap.size:=(Ad.1 hb).1;rcases hf with⟨h1,h2⟩|⟨j,e0,h1,h2,h3,h4,h5⟩
 ·refine⟨z,goInt clock,ChangeMaps.setBlock w b (.map (es.push ⟨E.enc x,z,clock⟩) (clock+1)),?_,⟨by simpa[ChangeMaps.setBlock] using ah,fun w2 f v=>?_⟩,?_,⟨rfl,rfl,rfl,by simp[ChangeMaps.setBlock],fun i _ hi=>Cb hb _ (fun e=>hi (by rw[e]))⟩⟩
  ·simp[Instr.mapEntry,CZ ht,Ch hb,K.check w false ab,h1,hz,CJ _ hb,Result.andThen,ChangeMaps.setBlock]
  ·rw[BZ hb]at f
   have ad:(es.push ⟨E.enc x,z,clock⟩).findIdx? (fun e=>(e.born:Int)==(clock:Int))=some es.size:=by
    rw[Go.WideElems.findIdx_arr,Cx,Kh n _ rfl];simp
   have ae:(es.push ⟨E.enc x,z,clock⟩).modify es.size (fun e=>{e with val:=v})=es.push ⟨E.enc x,v,clock⟩:=by
    apply Ep;rw[DJ,Cx,Cx]
    have:∀(l:List MapEntry) (a:MapEntry),(l++[a]).modify l.length (fun e=>{e with val:=v})=l++[{a with val:=v}]:=fun l a=>by
     induction l with
     | nil=>rfl
     | cons y r ih=>rw[Cn,BC,List.modify_succ_cons,ih];rfl
    exact this es.toList _
   refine⟨ChangeMaps.setBlock w2 b (.map (es.push ⟨E.enc x,v,clock⟩) (clock+1)),?_,?_,⟨rfl,rfl,rfl,by simp[ChangeMaps.setBlock],fun i _ hi=>Cb f _ (fun e=>hi (by rw[e]))⟩⟩
   ·simp[Instr.entryStore,Ch f,asInt,asIntOf,goInt,ad,ae,CJ _ f,Result.andThen,ChangeMaps.setBlock]
   ·rw[jz h2];refine⟨_,_,BZ f _,?_,?_,?_,?_,?_⟩
    ·rw[Cx,Bf,Bf,he];rfl
    ·intro p hp;rcases Bt.1 hp with q|q
     ·exact hk p q
     ·rw[AP]at q;subst q;exact hx
    ·rw[Bf,CK];refine⟨m,by simp,fun a ha d hd=>?_⟩;obtain⟨p,hp,rfl⟩:=Bm.1 ha;simp only[Bz,Du,AP]at hd;subst hd;exact zQ.1 h2 p hp
    ·intro e he;rw[Cx]at he;rcases Bt.1 he with q|q
     ·have:=n e q;omega
     ·rw[AP]at q;subst q;simp
    ·rw[Cx,Bf,CK];refine⟨ac,by simp,fun a ha d hd=>?_⟩;obtain⟨p,hp,rfl⟩:=Bm.1 ha;simp only[Bz,Du,AP]at hd
     have:=n p hp
     omega
  ·rw[h2,EP,jz h2];refine⟨_,_,BZ hb _,?_,?_,?_⟩
   ·rw[Cx,Bf,Bf,he];rfl
   ·intro p hp;rcases Bt.1 hp with q|q
    ·exact hk p q
    ·rw[AP]at q;subst q;exact hx
   ·rw[Bf,CK];refine⟨m,by simp,fun a ha d hd=>?_⟩;obtain⟨p,hp,rfl⟩:=Bm.1 ha;simp only[Bz,Du,AP]at hd;subst hd;exact zQ.1 h2 p hp
 ·have hj:es[j]?=some e0:=by simpa using h2
  have ai:j<es.size:=(Ad.1 hj).1
  have aa:es.modify j (fun e=>{e with key:=E.enc x})=es:=by
   apply Ep;rw[DJ,DZ _ _ _ _ h2];refine CU fun i=>?_;rw[Db];by_cases g:j=i
   ·subst g;rw[AC rfl,AC (by simpa using ai),h2,<-h3]
   ·rw[AI g]
  refine⟨e0.val,goInt e0.born,ChangeMaps.setBlock w b (.map es clock),?_,⟨by simpa[ChangeMaps.setBlock] using ah,fun w2 f v=>?_⟩,by rw[h4,Bp,J7 h4];exact⟨es,clock,BZ hb _,he,hk,m⟩,⟨rfl,rfl,rfl,by simp[ChangeMaps.setBlock],fun i _ hi=>Cb hb _ (fun e=>hi (by rw[e]))⟩⟩
  ·simp[Instr.mapEntry,CZ ht,Ch hb,K.check w false ab,h1,hj,h3,K.stays w ab,CJ _ hb,Result.andThen,ChangeMaps.setBlock,aa]
  ·rw[BZ hb]at f
   have ad:es.findIdx? (fun e=>(e.born:Int)==(e0.born:Int))=some j:=by
    rw[Go.WideElems.findIdx_arr,Q9 ac h2]
   refine⟨ChangeMaps.setBlock w2 b (.map (es.modify j (fun e=>{e with val:=v})) clock),?_,?_,⟨rfl,rfl,rfl,by simp[ChangeMaps.setBlock],fun i _ hi=>Cb f _ (fun e=>hi (by rw[e]))⟩⟩
   ·simp[Instr.entryStore,Ch f,asInt,asIntOf,goInt,ad,CJ _ f,Result.andThen,ChangeMaps.setBlock]
   ·have af:(es.modify j (fun e=>{e with val:=v})).toList=es.toList.set j {e0 with val:=v}:=by
     rw[DJ,DZ _ _ _ _ h2]
    rw[Iw m h5];refine⟨_,_,BZ f _,?_,?_,?_,?_,?_⟩
    ·rw[af,Cv,Cv,he,h3]
    ·intro p hp;rcases Dz hp with q|q
     ·exact hk p q
     ·rw[q];exact hx
    ·have e1:(l.set j (x,v)).map Prod.fst=l.map Prod.fst:=by
      rw[Cv];refine CU fun i=>?_;rw[Db];by_cases g:j=i
      ·subst g;have ag:j<(l.map Prod.fst).length:=by rw[Bh];exact(Bc.1 h5).1
       rw[AC rfl,AC ag,Bv,h5];rfl
      ·rw[AI g]
     rw[e1];exact m
    ·intro e he;rw[af]at he;rcases Dz he with q|q
     ·exact n e q
     ·rw[q];exact n e0 (Co h2)
    ·have e1:(es.toList.set j {e0 with val:=v}).map (·.born)=es.toList.map (·.born):=by
      rw[Cv];refine CU fun i=>?_;rw[Db];by_cases g:j=i
      ·subst g;have ag:j<(es.toList.map (·.born)).length:=by rw[Bh];simpa using ai
       rw[AC rfl,AC ag,Bv,h2];rfl
      ·rw[AI g]
     rw[af,e1];exact ac
end
end Go.Mw
namespace Go.Proofs.YtcmhaemaophplaaGreat
theorem Ku (z:Int) (hz:-9223372036854775808<=z) (aa:z<=9223372036854775807) (w:World) :
  Calls prog 78 #[.int .i64 z] w fun e w'=>e=.returned (.int .i64 (-1-z))/\w'=w:=by
 have hs:IntKind.i64.wrap (-1-z) = -1-z:=B3 _ (by omega);clear hz aa
 go_enter func78,ntmps78
 go_wp2;go_ret
 exact⟨rfl,rfl⟩
theorem Gq (z:Int) (w:World) :
  Calls prog 75 #[.int .i64 z] w fun e w'=>e=.returned (.bool (decide (z<0)))/\w'=w:=by
 go_enter func75,ntmps75
 go_wp2;go_ret
 exact⟨rfl,rfl⟩
theorem Iq (n:Int) (w:World) :
  Calls prog 30 #[.int .i64 n] w fun e w'=>e=.returned (.int .u32 (S.bit n))/\w'=w:=by
 go_enter func30,ntmps30
 by_cases h:n<0
 ·have e:=aA (S.oE h);go_wp2;go_ret
  rw[e.o];exact⟨rfl,rfl⟩
 ·have h':0<=n:=by omega
  have e:=aA (Ld n h');go_wp2;go_ret
  exact⟨aU e.o,rfl⟩
def FV (x:Nat×Bool) (r:Nat):Nat:=if x.2=true then x.1 ||| r else x.1
def Hr (x:Nat×Bool):Value:=.agg #[.int .u32 (x.1:Int),.bool x.2]
def uX (x:Nat×Bool):List Value:=[.int .u32 (x.1:Int),.bool x.2]
theorem Gw (x:Nat×Bool):(uX x).length=2:=rfl
theorem RO:(prog.info? 146).map (fun i=>(i.zero,i.size,i.bytes))=some (some (.agg #[.int .u32 0,.bool false]),2,8):=by kernel_rfl
theorem QW:(prog.info? 143).map (fun i=>(i.zero,i.size,i.bytes))=some (some (.slice none 0 0),1,24):=by kernel_rfl
theorem Pz (x:Nat×Bool) (r:Nat) (hx:x.1<4294967296) (hr:r<4294967296) (w:World) :
  Calls prog 117 #[Hr x,.int .u32 (r:Int)] w fun e w'=>e=.returned (.int .u32 (FV x r:Int))/\Below w.heap.size w w':=by
 have aa:=aA (bE.start 146 w #[.int .u32 (x.1:Int),.bool x.2]);have e:=aA (DS x.1 r hx hr);have HT:Hid (FV x r=if x.2=true then x.1 ||| r else x.1):=aA rfl;generalize FV x r=z at *;clear hx hr;unfold Hr;cases hb:x.2
 ·rw[hb]at HT aa;clear hb;generalize x.1=b at *
  go_enter func117,ntmps117
  go_wp2;go_ret
  exact⟨by rw[HT.o];rfl,aa.o.below⟩
 ·rw[hb]at HT aa;clear hb;generalize x.1=b at *
  go_enter func117,ntmps117
  go_wp2_with (rw[e.o])
  go_ret
  exact⟨by rw[HT.o];rfl,aa.o.below⟩
theorem QC:(match prog.underlying 112 with|some (.array _ _)|some (.struct _)=>true|_=>false)=true:=by rw[underlying112]
theorem Fx:Maps.Keyed prog 112:=Maps.Keyed.of_law (deep_law (m:=2) (by omega) (by kernel_rfl) (by kernel_rfl) QC)
theorem QU (x:Au.It) (h:Gm.In x.1/\Gm.In x.2):∃l,keyOf prog 112 (lI x)=some l:=by
 have h1:(Lit.int .i64 x.1).wf=true:=DQ (by unfold Gm.In at h;omega);have h2:(Lit.int .i64 x.2).wf=true:=DQ (by unfold Gm.In at h;omega);have hk:prog.keyType 112=true:=by kernel_rfl
 have hc:prog.cellsOf 112=2:=by kernel_rfl
 have aa:prog.cellsOf 3=1:=by kernel_rfl
 unfold keyOf;rw[underlying112];have ab:(lI x).formed prog 112=true:=by simp[Value.formed,underlying112,hc]
 have hl:∃ls,prog.keyLits (prog.types.size+1) 112 (lI x).cells.toList=some ls:=by
  obtain⟨n,hn⟩:∃n,prog.types.size=n+1:=⟨prog.types.size-1,by have:0<prog.types.size:=Cy (by kernel_rfl);omega⟩
  rw[hn];simp[Program.keyLits,underlying112,underlying3,hc,aa,Value.cells,h1,h2]
 obtain⟨ls,ac⟩:=hl;simp only[hk,ab,ac];exact⟨_,rfl⟩
def qL:Mw.qU prog 112 Au.It where
 enc x:=lI x
 ok x:=Gm.In x.1/\Gm.In x.2
 key x h:=QU x h
 inj x y _ _ h:=by
  injection h with h;simp at h;exact Ea h.1 h.2
theorem Ra:(match prog.underlying 71 with|some (.array _ _)|some (.struct _)=>true|_=>false)=true:=by rw[underlying71]
theorem F1:Maps.Keyed prog 71:=Maps.Keyed.of_law (deep_law (m:=2) (by omega) (by kernel_rfl) (by kernel_rfl) Ra)
theorem Tb (x:Au.It) (h:Gm.In x.1/\Gm.In x.2):∃l,keyOf prog 71 (lI x)=some l:=by
 have h1:(Lit.int .i64 x.1).wf=true:=DQ (by unfold Gm.In at h;omega);have h2:(Lit.int .i64 x.2).wf=true:=DQ (by unfold Gm.In at h;omega);have hk:prog.keyType 71=true:=by kernel_rfl
 have hc:prog.cellsOf 71=2:=by kernel_rfl
 have aa:prog.cellsOf 3=1:=by kernel_rfl
 unfold keyOf;rw[underlying71];have ab:(lI x).formed prog 71=true:=by simp[Value.formed,underlying71,hc]
 have hl:∃ls,prog.keyLits (prog.types.size+1) 71 (lI x).cells.toList=some ls:=by
  obtain⟨n,hn⟩:∃n,prog.types.size=n+1:=⟨prog.types.size-1,by have:0<prog.types.size:=Cy (by kernel_rfl);omega⟩
  rw[hn];simp[Program.keyLits,underlying71,underlying3,hc,aa,Value.cells,h1,h2]
 obtain⟨ls,ac⟩:=hl;simp only[hk,ab,ac];exact⟨_,rfl⟩
def qZ:Mw.qU prog 71 Au.It where
 enc x:=lI x
 ok x:=Gm.In x.1/\Gm.In x.2
 key x h:=Tb x h
 inj x y _ _ h:=by
  injection h with h;simp at h;exact Ea h.1 h.2
theorem RN:(prog.info? 112).map (fun i=>(i.zero,i.size,i.bytes))=some (some (.agg #[.int .i64 0,.int .i64 0]),2,16):=by kernel_rfl
end Go.Proofs.YtcmhaemaophplaaGreat
