/- Part of the proofs over this program: WalkAgain10. -/
import Derived.Test.YtkfelkpilaipnaaGreatDoorKP
namespace Go.Proofs.YtkfelkpilaipnaaGreatDoor
set_option maxRecDepth 100000
set_option maxHeartbeats 40000000
open Go.RowKit
def zkI (e:Ending):Prop:=∃X Y er,er≠0∧e=.returned (.tuple #[.agg #[.slice none 0 0,.slice none 0 0,.slice none 0 0,.int .i64 0],.complex .f64 X Y,.int .i64 er])
theorem zgR (A:Option Addr) (c n:Nat) (w:World) (h4:za1 w) (h:(n:Int) > 2000) :
  Calls Tryz.prog 5 #[.slice A n c] w fun e w'=>e=.returned (.bool true)∧Below w.heap.size w w':=by
 have HAL:=aA (zaD w h4)
 clear h4
 go_enter Tryz.func5,Tryz.ntmps5
 go_wp2_with fail
 refine HAL.out.mono ?_;rintro _ w1 ⟨rfl,hb1⟩
 have HB1:=aA hb1
 clear hb1
 go_wp2
 go_ret
 exact⟨rfl,HB1.out⟩
theorem zcJ (A:Option Addr) (c n:Nat) (w:World) (h4:za1 w) (hn:n≤2000) (hR:∀w1:World,Below w.heap.size w w1→Calls Tryz.prog 15 #[.slice A n c] w1 fun e w'=>zkI e∧Below w1.heap.size w1 w') :
  Calls Tryz.prog 5 #[.slice A n c] w fun e w'=>e=.returned (.bool true)∧Below w.heap.size w w':=by
 have HAL:=aA (zaD w h4)
 have HRD:=aA hR
 have HP0:=aA (fun(x:World)=>zat _ gt0 x.heap.size x (zjT x _) zid (Nat.le_refl _))
 rw[prt0]at HP0
 simp only at HP0
 have hn':¬(2000:Int)<(n:Int):=by omega
 have HBA:=aA (fun(x:World) (h:Below w.heap.size w x) (o:Obj)=>h.alloc h.size o)
 clear h4 hR hn
 go_enter Tryz.func5,Tryz.ntmps5
 go_wp2_with fail
 refine HAL.out.mono ?_;rintro _ w1 ⟨rfl,hb1⟩
 have HB1:=aA hb1
 clear hb1
 go_wp2_with fail
 refine(HRD.out w1 HB1.out).mono ?_;rintro _ w2 ⟨⟨X,Y,er,her,rfl⟩,hb2⟩
 have HB2:=aA (HB1.out.trans (hb2.mono HB1.out.size))
 have her':(er != 0)=true:=by simpa using her
 have her2:(er==0)=false:=by simpa using her
 clear hb2 her
 go_wp2_with fail
 refine(HP0.out _).mono ?_;rintro _ w3 ⟨rfl,hb3⟩
 have HB3:=aA ((HBA.out _ HB2.out _).trans (hb3.mono (HBA.out _ HB2.out _).size))
 clear hb3
 go_wp2
 go_ret
 exact⟨rfl,HB3.out⟩
theorem zfj (A:Option Addr) (c n:Nat) (G:Gm.Gr) (w:World) (hm:ML w) (h4:za1 w) (hn:n≤2000) (hG:Gm.Built G) (hR:∀w1:World,Below w.heap.size w w1→Calls Tryz.prog 15 #[.slice A n c] w1 fun e w'=>(∃v,e=.returned (.tuple #[v,.complex .f64 0 0,.int .i64 0])∧bC w' w'.heap.size v G)∧Below w1.heap.size w1 w') :
  Calls Tryz.prog 5 #[.slice A n c] w fun e w'=>e=.returned (.bool true)∧Below w.heap.size w w':=by
 have HAL:=aA (zaD w h4)
 have HRD:=aA hR
 have hn':¬(2000:Int)<(n:Int):=by omega
 have TP:=aA (fun(z x:World) (v:Value) (hg:bC z z.heap.size v G) (h:Below z.heap.size z x)=>zat v G z.heap.size x (hg.below h (Nat.le_refl _)) hG.t h.size)
 have TD:=aA (fun(z x:World) (v:Value) (hg:bC z z.heap.size v G) (h:Below z.heap.size z x) (k:Below w.heap.size w x)=>zbJ v G z.heap.size x (hg.below h (Nat.le_refl _)) hG.t h.size (h4.below k))
 have TS:=aA (fun(z z2 x:World) (v u:Value) (hg:bC z z.heap.size v G) (hu:bC z2 z2.heap.size u G) (h:Below z.heap.size z x) (k:Below z2.heap.size z2 x)=>zci v u G G z.heap.size z2.heap.size x (hg.below h (Nat.le_refl _)) (hu.below k (Nat.le_refl _)) hG.t hG.t h.size k.size)
 rw[Gm.same_self]at TS
 have HRB:=aA (fun(hp:Sh.pr G=(Sh.text G,0)) (x:World) (h:Below w.heap.size w x)=>zed G hG.r hp hG.t x (hm.up h))
 have HPR:=aA (zfC G)
 have HGR:=aA hG.r
 clear h4 hR hn hm hG
 go_enter Tryz.func5,Tryz.ntmps5
 go_wp2_with fail
 refine HAL.out.mono ?_;rintro _ w1 ⟨rfl,hb1⟩
 have HB1:=aA hb1
 clear hb1
 go_wp2_with fail
 refine(HRD.out w1 HB1.out).mono ?_;rintro _ w2 ⟨⟨v,rfl,hg2⟩,hb2⟩
 have HB2:=aA (HB1.out.trans (hb2.mono HB1.out.size))
 have HG2:=aA hg2
 obtain⟨A0,c0,A1,c1,A2,c2,rfl,_⟩:=hg2
 clear hb2 HRD
 have HQ0:=aA (One.start w2 #[.slice A0 G.ts.length c0,.slice A1 G.ns.length c1,.slice A2 G.rs.length c2,.int .i64 G.st])
 have HXC:=aA (fun(x:World) (h:One w2 #[.slice A0 G.ts.length c0,.slice A1 G.ns.length c1,.slice A2 G.rs.length c2,.int .i64 G.st] x)=>And.intro (h.c 0 _ rfl) (And.intro (h.c 1 _ rfl) (And.intro (h.c 2 _ rfl) (h.c 3 _ rfl))))
 rcases HPR.out with⟨hr,hp⟩|⟨hr,hp⟩|⟨hr,hp⟩
 ·have TP2:=aA (fun(x:World) (h:Below w2.heap.size w2 x)=>TP.out w2 x _ HG2.out h)
  rw[hp]at TP2
  simp only at TP2
  rw[hp]at TP
  simp only at TP
  rw[hp]at TD
  simp only at TD
  have HRX:=aA (HRB.out hp)
  have CV:=fun x=>zaz x (Sh.text G)
  clear hr hp
  generalize K.str (Sh.text G)=tx at *
  generalize (Sh.text G)=tl at *
  generalize Sh.dg G=dn at *
  go_wp2_with fail
  refine(TP2.out _ HQ0.out.below).mono ?_;rintro _ w3 ⟨rfl,hb3⟩
  have HQ3:=aA (HQ0.out.on hb3)
  clear hb3 TP2
  have HW3:=aA (HB2.out.trans (HQ3.out.below.mono HB2.out.size))
  go_wp2_with fail
  refine(HRX.out w3 HW3.out).mono ?_;rintro _ w4 ⟨⟨g,rfl,hg4⟩,hb4⟩
  have HQ4:=aA (HQ3.out.on hb4)
  have HG4:=aA hg4
  obtain⟨B0,d0,B1,d1,B2,d2,rfl,_⟩:=hg4
  clear hb4 CV HRX
  have HR5:=aA (One.start w4 #[.slice B0 G.ts.length d0,.slice B1 G.ns.length d1,.slice B2 G.rs.length d2,.int .i64 G.st])
  have HYC:=aA (fun(x:World) (h:One w4 #[.slice B0 G.ts.length d0,.slice B1 G.ns.length d1,.slice B2 G.rs.length d2,.int .i64 G.st] x)=>And.intro (h.c 0 _ rfl) (And.intro (h.c 1 _ rfl) (And.intro (h.c 2 _ rfl) (h.c 3 _ rfl))))
  have HQ5:=aA (HQ4.out.on HR5.out.below)
  have HW4:=aA (HB2.out.trans (HQ4.out.below.mono HB2.out.size))
  go_wp2_with fail
  refine(TP.out w4 _ _ HG4.out HR5.out.below).mono ?_;rintro _ w6 ⟨rfl,hb6⟩
  have HQ6:=aA (HQ5.out.on hb6)
  have HR6:=aA (HR5.out.on hb6)
  have HW6:=aA (HW4.out.trans (HR6.out.below.mono HW4.out.size))
  obtain⟨x0,x1,x2,x3⟩:=HXC.out w6 HQ6.out
  clear hb6
  go_wp2_with fail
  refine(TD.out w2 w6 _ HG2.out HQ6.out.below HW6.out).mono ?_;rintro _ w7 ⟨rfl,hb7⟩
  have HQ7:=aA (HQ6.out.on hb7)
  have HR7:=aA (HR6.out.on hb7)
  have HW7:=aA (HW4.out.trans (HR7.out.below.mono HW4.out.size))
  clear x0 x1 x2 x3 hb7
  obtain⟨y0,y1,y2,y3⟩:=HYC.out w7 HR7.out
  go_wp2_with fail
  refine(TD.out w4 w7 _ HG4.out HR7.out.below HW7.out).mono ?_;rintro _ w8 ⟨rfl,hb8⟩
  have HQ8:=aA (HQ7.out.on hb8)
  have HR8:=aA (HR7.out.on hb8)
  have HW8:=aA (HW4.out.trans (HR8.out.below.mono HW4.out.size))
  clear y0 y1 y2 y3 hb8
  obtain⟨x0,x1,x2,x3⟩:=HXC.out w8 HQ8.out
  obtain⟨y0,y1,y2,y3⟩:=HYC.out w8 HR8.out
  go_wp2_with fail
  refine(TS.out w2 w4 w8 _ _ HG2.out HG4.out HQ8.out.below HR8.out.below).mono ?_;rintro _ w9 ⟨rfl,hb9⟩
  have HW9:=aA (HW8.out.trans (hb9.mono HW8.out.size))
  clear x0 x1 x2 x3 y0 y1 y2 y3 hb9
  go_wp2
  go_ret
  exact⟨rfl,HW9.out⟩
 ·have TP2:=aA (fun(x:World) (h:Below w2.heap.size w2 x)=>TP.out w2 x _ HG2.out h)
  rw[hp]at TP2
  simp only at TP2
  go_wp2_with fail
  refine(TP2.out _ HQ0.out.below).mono ?_;rintro _ w3 ⟨rfl,hb3⟩
  have HQ3:=aA (HQ0.out.on hb3)
  have HW3:=aA (HB2.out.trans (HQ3.out.below.mono HB2.out.size))
  clear hb3 hr hp
  go_wp2
  go_ret
  exact⟨rfl,HW3.out⟩
 ·rw[HGR.out]at hr;cases hr
theorem zcL (A:Option Addr) (c:Nat) (L:List Int) (w:World) (hr:RdB w w.heap.size A L) (hl:K.Bytes L) (hc:L.length≤c) (hm:ML w) (h4:za1 w) :
  Calls Tryz.prog 5 #[.slice A L.length c] w fun e w'=>e=.returned (.bool true)∧Below w.heap.size w w':=by
 by_cases h2:(L.length:Int) > 2000
 ·exact zgR A c L.length w h4 h2
 have hn:L.length≤2000:=by omega
 have hR:=fun(w1:World) (h1:Below w.heap.size w w1)=>zfA A c L w1 (hr.up h1) hl hc (by omega) (hm.up h1)
 unfold zdQ at hR
 rcases hq:rd L with _|r
 ·rw[hq]at hR
  exact zcJ A c L.length w h4 hn fun w1 h1=>(hR w1 h1).mono fun e w' h=>⟨h.1,h.2⟩
 ·rw[hq]at hR
  rcases r with G|⟨y,er⟩
  ·refine zfj A c L.length G w hm h4 hn (ziX hl hq) fun w1 h1=>(hR w1 h1).mono fun e w' h=>?_
   obtain⟨⟨v,he,hg⟩,hb⟩:=h
   exact⟨⟨v,he,hg.rd⟩,hb⟩
  ·refine zcJ A c L.length w h4 hn fun w1 h1=>(hR w1 h1).mono fun e w' h=>?_
   obtain⟨⟨he,h2⟩,hb⟩:=h
   exact⟨⟨_,_,er,he,h2⟩,hb⟩
end Go.Proofs.YtkfelkpilaipnaaGreatDoor
