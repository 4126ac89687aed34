/- Part of the proofs over this program: WalkBack10. -/
import Derived.Test.YtkfelkpilaipnaaGreatDoorKO
namespace Go.Proofs.YtkfelkpilaipnaaGreatDoor
set_option maxRecDepth 100000
set_option maxHeartbeats 40000000
open Go.RowKit
theorem zkQ:K.str []=⟨#[]⟩:=by decide
theorem zkj {G:Gm.Gr} (h:Gm.right G=true):rd (Sh.text G)=some (.ok G):=by
 obtain⟨xs,s,h1,h2,h3⟩:=Sh.text_back h
 unfold rd
 rw[h1]
 simp only
 rw[h2]
 simp only
 rw[h3]
theorem zfC (G:Gm.Gr):(Gm.right G=true∧Sh.pr G=(Sh.text G,0))∨(Gm.right G=true∧Sh.pr G=([],5))∨(Gm.right G=false∧Sh.pr G=([],1)):=by
 unfold Sh.pr
 split
 ·rename_i h
  split
  ·exact .inr (.inl ⟨h,rfl⟩)
  ·exact .inl ⟨h,rfl⟩
 ·rename_i h
  exact .inr (.inr ⟨by simpa using h,rfl⟩)
theorem zed (G:Gm.Gr) (hr:Gm.right G=true) (hp:Sh.pr G=(Sh.text G,0)) (hf:Gm.Fit G) (x:World) (hm:ML x) :
  Calls Tryz.prog 15 #[.slice (some ⟨x.heap.size,0,none⟩) (Sh.text G).length (zfw x (Sh.text G))] (x.drew.alloc (ziD x (Sh.text G))) fun e w'=>(∃g,e=.returned (.tuple #[g,.complex .f64 0 0,.int .i64 0])∧bC w' w'.heap.size g G)∧Below x.heap.size x w':=by
 have hb:K.Bytes (Sh.text G):=by have:=Sh.pr_bytes hf;rw[hp]at this;exact this
 have hl:(Sh.text G).length≤4000:=by have:=Sh.pr_len G;rw[hp]at this;exact this
 obtain⟨r1,r2,r3⟩:=za4 x (Sh.text G) hb
 refine(zfA _ _ (Sh.text G) _ r1 hb r3 hl (hm.up r2)).mono fun e w' h=>?_
 unfold zdQ at h
 rw[zkj hr]at h
 obtain⟨⟨g,he,hg⟩,hbw⟩:=h
 exact⟨⟨g,he,hg.rd⟩,r2.trans (hbw.mono r2.size)⟩
theorem zds (v:Value) (G:Gm.Gr) (w:World) (hg:bC w w.heap.size v G) (hf:Gm.Fit G) (hm:ML w) (h4:za1 w) :
  Calls Tryz.prog 4 #[v] w fun e w'=>e=.returned (.bool true)∧Below w.heap.size w w':=by
 have HGG:=aA (fun(x:World) (h:Below w.heap.size w x)=>hg.below h (Nat.le_refl _))
 have HAL:=aA (fun(x:World) (h:Below w.heap.size w x)=>zaD x (h4.below h))
 have TG:=aA (fun(x:World) (h:Below w.heap.size w x)=>zde v G w.heap.size x (HGG.out x h) h.size)
 have TP:=aA (fun(x:World) (h:Below w.heap.size w x)=>zat v G w.heap.size x (HGG.out x h) hf h.size)
 have TR:=aA (fun(x:World) (h:Below w.heap.size w x)=>zcV v G w.heap.size x (HGG.out x h) hf h.size)
 have TS:=aA (fun(x:World) (u:Value) (hu:bC x x.heap.size u G) (y:World) (k:Below x.heap.size x y) (h:Below w.heap.size w y)=>zci u v G G x.heap.size w.heap.size y (hu.below k (Nat.le_refl _)) (HGG.out y h) hf hf k.size h.size)
 rw[Gm.same_self]at TS
 obtain⟨A0,c0,A1,c1,A2,c2,rfl,_⟩:=hg
 have HQ0:=aA (One.start w #[.slice A0 G.ts.length c0,.slice A1 G.ns.length c1,.slice A2 G.rs.length c2,.int .i64 G.st])
 have HXC:=aA (fun(x:World) (h:One w #[.slice A0 G.ts.length c0,.slice A1 G.ns.length c1,.slice A2 G.rs.length c2,.int .i64 G.st] x)=>And.intro (h.c 0 _ rfl) (And.intro (h.c 1 _ rfl) (And.intro (h.c 2 _ rfl) (h.c 3 _ rfl))))
 have HRB:=aA (fun(hr:Gm.right G=true) (hp:Sh.pr G=(Sh.text G,0)) (x:World) (h:Below w.heap.size w x)=>zed G hr hp hf x (hm.up h))
 have HPR:=aA (zfC G)
 have HL0:=aA (fun(x:World) (h:Below w.heap.size w x)=>(show w.heap.size≤x.heap.size from h.size))
 clear hm h4
 generalize G.ts.length=gt at *
 generalize G.ns.length=gn at *
 generalize G.rs.length=gr at *
 generalize G.st=gs at *
 go_enter Tryz.func4,Tryz.ntmps4
 go_wp2_with fail
 refine(HAL.out _ HQ0.out.below).mono ?_;rintro _ w1 ⟨rfl,hb1⟩
 have HQ1:=aA (HQ0.out.on hb1)
 obtain⟨x0,x1,x2,x3⟩:=HXC.out w1 HQ1.out
 clear hb1
 cases hgr:Gm.great G with
 | true =>
  rw[hgr]at TG
  go_wp2_with fail
  refine(TG.out _ HQ1.out.below).mono ?_;rintro _ w2 ⟨rfl,hb2⟩
  have HQ2:=aA (HQ1.out.on hb2)
  clear hb2
  go_wp2
  go_ret
  exact⟨rfl,HQ2.out.below⟩
 | false =>
  rw[hgr]at TG
  go_wp2_with fail
  refine(TG.out _ HQ1.out.below).mono ?_;rintro _ w2 ⟨rfl,hb2⟩
  have HQ2:=aA (HQ1.out.on hb2)
  clear x0 x1 x2 x3 hb2 hgr TG
  obtain⟨x0,x1,x2,x3⟩:=HXC.out w2 HQ2.out
  rcases HPR.out with⟨hr,hp⟩|⟨hr,hp⟩|⟨hr,hp⟩
  ·rw[hp]at TP
   simp only at TP
   have HRD:=aA (HRB.out hr hp)
   have CV:=fun x=>zaz x (Sh.text G)
   clear hr hp
   generalize K.str (Sh.text G)=tx at *
   generalize (Sh.text G)=tl at *
   go_wp2_with fail
   refine(TP.out _ HQ2.out.below).mono ?_;rintro _ w3 ⟨rfl,hb3⟩
   have HQ3:=aA (HQ2.out.on hb3)
   clear x0 x1 x2 x3 hb3 TP
   go_wp2_with fail
   refine(HRD.out w3 HQ3.out.below).mono ?_;rintro _ w4 ⟨⟨g,rfl,hg4⟩,hb4⟩
   have HQ4:=aA (HQ3.out.on hb4)
   have HG4:=aA hg4
   obtain⟨B0,d0,B1,d1,B2,d2,rfl,_⟩:=hg4
   clear hb4 CV
   have HQ5:=aA (HQ4.out.alloc (.cells #[.slice B0 G.ts.length d0,.slice B1 G.ns.length d1,.slice B2 G.rs.length d2,.int .i64 G.st] 26))
   have HT5:=aA (TS.out w4 _ HG4.out (w4.alloc (.cells #[.slice B0 G.ts.length d0,.slice B1 G.ns.length d1,.slice B2 G.rs.length d2,.int .i64 G.st] 26)) ((Below.refl _ w4).alloc (Nat.le_refl _) _) HQ5.out.below)
   obtain⟨x0,x1,x2,x3⟩:=HXC.out w4 HQ4.out
   have hl4:w.heap.size<w4.heap.size:=by have:=HQ4.out.size;omega
   go_wp2_with fail
   refine HT5.out.mono ?_;rintro _ w6 ⟨rfl,hb6⟩
   have HQ6:=aA (HQ5.out.on hb6)
   clear x0 x1 x2 x3 hb6
   go_wp2
   go_ret
   exact⟨rfl,HQ6.out.below⟩
  ·rw[hp,zkQ]at TP
   rw[hr]at TR
   simp only at TP
   clear hr hp
   go_wp2_with fail
   refine(TP.out _ HQ2.out.below).mono ?_;rintro _ w3 ⟨rfl,hb3⟩
   have HQ3:=aA (HQ2.out.on hb3)
   clear x0 x1 x2 x3 hb3 TP
   obtain⟨x0,x1,x2,x3⟩:=HXC.out w3 HQ3.out
   go_wp2_with fail
   refine(TR.out _ HQ3.out.below).mono ?_;rintro _ w4 ⟨rfl,hb4⟩
   have HQ4:=aA (HQ3.out.on hb4)
   clear x0 x1 x2 x3 hb4 TR
   go_wp2
   go_ret
   exact⟨rfl,HQ4.out.below⟩
  ·rw[hp,zkQ]at TP
   rw[hr]at TR
   simp only at TP
   clear hr hp
   go_wp2_with fail
   refine(TP.out _ HQ2.out.below).mono ?_;rintro _ w3 ⟨rfl,hb3⟩
   have HQ3:=aA (HQ2.out.on hb3)
   clear x0 x1 x2 x3 hb3 TP
   obtain⟨x0,x1,x2,x3⟩:=HXC.out w3 HQ3.out
   go_wp2_with fail
   refine(TR.out _ HQ3.out.below).mono ?_;rintro _ w4 ⟨rfl,hb4⟩
   have HQ4:=aA (HQ3.out.on hb4)
   clear x0 x1 x2 x3 hb4 TR
   go_wp2
   go_ret
   exact⟨rfl,HQ4.out.below⟩
end Go.Proofs.YtkfelkpilaipnaaGreatDoor
