/- Part of the proofs over this program: TrimTells, TrimRef, WalkLow14. -/
import Derived.Test.YtcgclkndkahgaaaGreatKJ
namespace Go.Proofs.YtcgclkndkahgaaaGreat
set_option maxRecDepth 100000
set_option maxHeartbeats 40000000
open Go.RowKit
def zij (s:List Bool) (w:World) (e:Ending) (w':World):Prop:=∃g,e=.returned (.slice (some ⟨g,0,none⟩) s.length s.length)∧w.heap.size≤g∧UBO w' g s∧Below w.heap.size w w'
def RowB (b:Bool) (s:List Bool) (w:World) (e:Ending) (w':World):Prop:=(b=true→zij s w e w')∧(b=false→e=.returned (.slice none 0 0)∧Below w.heap.size w w')
theorem Gm.growP_take {tm:Bool} {rs:List Gm.Rl} {k:Nat} (h:k<rs.length) (s:List Bool):(rs.take (k+1)).foldl (Gm.grow1 tm) s=Gm.grow1 tm ((rs.take k).foldl (Gm.grow1 tm) s) rs[k]:=by
 rw[List.take_succ_eq_append_getElem h,List.foldl_append];rfl
theorem Gm.growP_len (tm:Bool) (rs:List Gm.Rl) (s:List Bool):(rs.foldl (Gm.grow1 tm) s).length=s.length:=((Gm.foldl_le _ (Gm.grow1_le tm) rs s).len).symm
theorem zef (tm:Bool) (v:Value) (G:Gm.Gr) (B:Nat) (w:World) (hg:aN w B v G) (hf:Gm.Fit G) (hB:B≤w.heap.size) :
  Calls Tryz.prog 40 #[v,.bool tm] w (RowB (Gm.right G) (Gm.gn tm G.rs G.ns.length) w):=by
 have H1:=aA (fun(x:World) (h:Below w.heap.size w x)=>zaC v G B x (hg.below h hB) hf (Nat.le_trans hB h.size))
 obtain⟨AT,cT,AN,cN,AR,cR,rfl,_,⟨hlN,hmN⟩,⟨hlR,hmR⟩,_,_,hR⟩:=hg
 have HS0:=aA (One.start w #[.slice AT G.ts.length cT,.slice AN G.ns.length cN,.slice AR G.rs.length cR,.int .i64 G.st])
 have HRl:=aA hR
 have HB:=aA hB
 have HFT:=aA hf
 clear hf hR hB
 cases q:Gm.right G
 ·rw[q]at H1
  clear q
  go_enter Tryz.func40,Tryz.ntmps40
  go_wp2_with fail
  refine(H1.out _ HS0.out.below).mono ?_;rintro _ w2 ⟨rfl,hb⟩
  have HB2:=aA (HS0.out.on hb)
  clear hb
  go_wp2
  go_ret
  exact⟨fun h=>by simp at h,fun _=>⟨rfl,HB2.out.below⟩⟩
 ·have HOK:=aA (Gm.right_ok.1 q)
  have HN:Hid (G.ns.length≤40):=aA (by have:=(Gm.nons_iff G).1 HOK.out.n;omega)
  have HR40:Hid (G.rs.length≤40):=aA HOK.out.r40
  rw[q]at H1
  clear q
  have hnn:=HN.out
  have hlen:(G.ns.length:Int)≤9223372036854775807:=by omega
  have hlen2:(G.rs.length:Int)≤9223372036854775807:=by omega
  go_enter Tryz.func40,Tryz.ntmps40
  go_wp2_with fail
  refine(H1.out _ HS0.out.below).mono ?_;rintro _ w2 ⟨rfl,hb⟩
  have HB2:=aA (HS0.out.on hb)
  have q1:=HB2.out.c 1 _ rfl
  have hd1:w.heap.size<w2.heap.size:=HB2.out.size
  clear hb
  go_upto_region 4 with(at_make;refine zfd rfl (.tmp 13) (.tmp 13) _ rfl Tryz.underlying38 G.ns.length _ _ rfl rfl rfl rfl (by omega) ?_;intro w3 hu3 hb3 hlt3)
  have HB3:=aA (HB2.out.on hb3)
  have HU3:=aA hu3
  have HGK:Hid (w.heap.size<w2.heap.size):=aA hd1
  clear hu3 hb3 hlt3 q1 hd1 HS0 H1
  go_wp2
  go_loopw [6] (fun vn wr=>∃n:Nat,n≤G.ns.length∧vn=.int .i64 n∧Hid (UBO wr w2.heap.size (Gm.times (Gm.growP tm G.rs) n (List.replicate G.ns.length false)))∧Hid (One w #[.slice AT G.ts.length cT,.slice AN G.ns.length cN,.slice AR G.rs.length cR,.int .i64 G.st] wr)) (fun vn _=>G.ns.length-(intOf vn).toNat)
  case atStart=>exact⟨0,Nat.zero_le _,rfl,HU3,HB3⟩
  case round =>
   obtain⟨n,hn,rfl,HU,HW⟩:=hrel
   obtain⟨wo,hwo⟩:∃wo:World,wo=wr:=⟨_,rfl⟩
   subst hwo
   have q1:=HW.out.c 1 _ rfl
   have ld:w.heap.size<wo.heap.size:=HW.out.size
   clear HU3 HB3
   by_cases hlt:n<G.ns.length
   ·have HSL:Hid ((Gm.times (Gm.growP tm G.rs) n (List.replicate G.ns.length false)).length=G.ns.length):=aA (by have:=(Gm.times_le (f:=Gm.growP tm G.rs) (fun s=>Gm.foldl_le _ (Gm.grow1_le tm) G.rs s) n (List.replicate G.ns.length false)).len;rw[←this];simp)
    have HNX:Hid (Gm.times (Gm.growP tm G.rs) (n+1) (List.replicate G.ns.length false)=G.rs.foldl (Gm.grow1 tm) (Gm.times (Gm.growP tm G.rs) n (List.replicate G.ns.length false))):=aA rfl
    generalize Gm.times (Gm.growP tm G.rs) n (List.replicate G.ns.length false)=s at *
    go_wp2
    go_loopw [7] (fun vi wr=>∃i:Nat,i≤G.rs.length∧vi=.int .i64 i∧Hid (UBO wr w2.heap.size ((G.rs.take i).foldl (Gm.grow1 tm) s))∧Hid (One w #[.slice AT G.ts.length cT,.slice AN G.ns.length cN,.slice AR G.rs.length cR,.int .i64 G.st] wr)) (fun vi _=>G.rs.length-(intOf vi).toNat)
    case atStart=>exact⟨0,Nat.zero_le _,rfl,HU,HW⟩
    case round =>
     clear HU HW q1 ld
     obtain⟨i,hi,rfl,HU,HW⟩:=hrel
     have q2:=HW.out.c 2 _ rfl
     have ld:w.heap.size<wr.heap.size:=HW.out.size
     by_cases hlt2:i<G.rs.length
     ·obtain⟨g,o,rfl,hgB,hc⟩:=HRl.out (by omega)
      obtain⟨k0,⟨A',c',k1,_,_,hri⟩,_⟩:=hc i hlt2
      have k0:=(HW.out.below.cell (p:=⟨g,o+i*3,none⟩) (Nat.lt_of_lt_of_le hgB HB.out)).trans k0
      have k1:=(HW.out.below.cell (p:=⟨g,o+i*3+1,none⟩) (Nat.lt_of_lt_of_le hgB HB.out)).trans k1
      have hgs:g<wr.heap.size:=by have:=HB.out;omega
      have hxm:G.rs[i]∈G.rs:=List.getElem_mem hlt2
      have e:=HFT.out.r _ hxm
      have HCL:=aA ((Gm.growP_len tm (G.rs.take i) s).trans HSL.out)
      have HTK:=aA (Gm.growP_take (tm:=tm) hlt2 s)
      have hxl:=HOK.out.lin _ hxm
      have HAL:=zfY G.rs[i].r ((G.rs.take i).foldl (Gm.grow1 tm) s) tm A' (some ⟨w2.heap.size,0,none⟩) c' G.ns.length B wr.heap.size wr (hri.keep fun g o hg=>HW.out.below.cell (p:=⟨g,o,none⟩) (Nat.lt_of_lt_of_le hg HB.out)) e.2.2 (fun z hz h=>by rw[HCL.out];exact HOK.out.sin _ hxm z hz h) (HU.out.rd0 HU.out.lt) (by have:=(Gm.rule_in (HOK.out.rr _ hxm)).1;omega)
      rw[HCL.out]at HAL
      have HAL:=aA HAL
      have lu:=HU.out.lt
      generalize (G.rs.take i).foldl (Gm.grow1 tm) s=cur at *
      generalize G.rs[i]=x at *
      obtain⟨m,hm⟩:∃m:Nat,x.l=(m:Int):=⟨x.l.toNat,by omega⟩
      have HM:Hid (x.l.toNat=m):=aA (by rw[hm];simp)
      have hmn:m<cur.length:=by rw[HCL.out];omega
      have km:=HU.out.cell m hmn
      have fm:=HU.out.frozen m
      rw[hm]at k0 hxl
      have hmi:=hxl.2
      clear hc hri e hxm hm hmn hxl
      cases ha:Gm.allB tm cur x.r
      ·rw[ha]at HAL
       have HX:=aA (HTK.out.trans (show Gm.grow1 tm cur x=cur by unfold Gm.grow1;rw[if_neg (by rw[ha];decide)]))
       clear ha HTK
       go_wp2_with fail
       refine HAL.out.mono ?_;rintro _ w4 ⟨rfl,hw4⟩
       subst hw4
       go_wp2
       go_roundw
       case rel=>exact⟨i+1,hlt2,by go_num,by rw[HX.out];exact HU,HW⟩
       case measure=>simp[intOf];omega
      ·rw[ha]at HAL
       have HX:=aA (HTK.out.trans (show Gm.grow1 tm cur x=cur.set m true by unfold Gm.grow1;rw[if_pos ha,HM.out]))
       have HU2:=aA (HU.out.set_ m true)
       have HW2:Hid (One w #[.slice AT G.ts.length cT,.slice AN G.ns.length cN,.slice (some ⟨g,o,none⟩) G.rs.length cR,.int .i64 G.st] (wr.setCell ⟨w2.heap.size,m,none⟩ (.bool true))):=aA (Below.setCell (p:=⟨w2.heap.size,m,none⟩) HW.out (by have:=HGK.out;simp only;omega) _)
       clear ha HTK
       go_wp2_with fail
       refine HAL.out.mono ?_;rintro _ w4 ⟨rfl,hw4⟩
       subst hw4
       go_wp2
       go_roundw
       case rel=>exact⟨i+1,hlt2,by go_num,by rw[HX.out];exact HU2,HW2⟩
       case measure=>simp[intOf];omega
     ·obtain rfl:i=G.rs.length:=by omega
      rw[List.take_length]at HU
      go_wp2
      go_roundw
      case rel=>exact⟨n+1,hlt,by go_num,by rw[HNX.out];exact HU,HW⟩
      case measure=>simp[intOf];omega
   ·obtain rfl:n=G.ns.length:=by omega
    have HE:=aA (Gm.grow_gn (tm:=tm) HOK.out.lin)
    go_wp2
    go_ret
    exact⟨fun _=>⟨w2.heap.size,by rw[Gm.gn_len];rfl,Nat.le_of_lt HGK.out,by rw[←HE.out];exact HU.out,HW.out.below⟩,fun h=>by simp at h⟩
theorem zbD (v:Value) (G:Gm.Gr) (B:Nat) (w:World) (hg:aN w B v G) (hf:Gm.Fit G) (hB:B≤w.heap.size) :
  Calls Tryz.prog 19 #[v] w (RowB (Gm.right G) (Gm.gn true G.rs G.ns.length) w):=by
 have H1:=aA (fun(x:World) (h:Below w.heap.size w x)=>zef true v G B x (hg.below h hB) hf (Nat.le_trans hB h.size))
 obtain⟨AT,cT,AN,cN,AR,cR,rfl,_⟩:=hg
 have HS0:=aA (One.start w #[.slice AT G.ts.length cT,.slice AN G.ns.length cN,.slice AR G.rs.length cR,.int .i64 G.st])
 clear hf
 generalize Gm.gn true G.rs G.ns.length=T at *
 generalize Gm.right G=q at *
 cases q
 ·go_enter Tryz.func19,Tryz.ntmps19
  go_wp2_with fail
  refine(H1.out _ HS0.out.below).mono ?_;intro e w2 h
  obtain⟨rfl,hb⟩:=h.2 rfl
  have HB2:=aA (HS0.out.on hb)
  clear hb h
  go_wp2
  go_ret
  exact⟨fun h=>by simp at h,fun _=>⟨rfl,HB2.out.below⟩⟩
 ·go_enter Tryz.func19,Tryz.ntmps19
  go_wp2_with fail
  refine(H1.out _ HS0.out.below).mono ?_;intro e w2 h
  obtain⟨g,rfl,hg,hu,hb⟩:=h.1 rfl
  have HB2:=aA (HS0.out.on hb)
  have HU:=aA hu
  have HG:=aA hg
  clear hb h hu hg
  go_wp2
  go_ret
  exact⟨fun _=>⟨g,rfl,by have:=HG.out;simp at this;omega,HU.out,HB2.out.below⟩,fun h=>by simp at h⟩
theorem Gm.best_l {G:Gm.Gr} (h:Gm.Ok G) {j:Nat} (hp:Gm.Gn true G.rs (j:Int)):∃i,∃hi:i<G.rs.length,(Gm.best G (Gm.hts G)).getD j 0=(i:Int)∧G.rs[i].l=(j:Int)∧Gm.Al true G.rs G.rs[i].r∧(Gm.hts G).getD j 0=Gm.topH (Gm.hts G) G.rs[i].r+1:=by
 have hj:=hp.lin h.lin
 have hj2:j<G.ns.length:=by omega
 obtain⟨i,e,hi,el,ha,et,_⟩:=Gm.best_of h hp
 refine⟨i,hi,?_,el,ha,et⟩
 have h1:=Gm.best_at (G:=G) hj2
 rw[List.getD_eq_getElem?_getD,List.getElem?_eq_getElem (by rw[Gm.best_len];exact hj2)]at h1 ⊢
 simp only[Option.getD_some]at h1 ⊢
 rw[h1,e]
theorem Gm.low1 {G:Gm.Gr} (h:Gm.Ok G) {m:Nat} (hm:m<G.ns.length):((Gm.gn true G.rs G.ns.length).getD m false=true∧0<(Gm.hts G).getD m 0∧∃i:Nat,∃hi:i<G.rs.length,(Gm.best G (Gm.hts G)).getD m 0=(i:Int)∧G.rs[i].l=(m:Int))∨((Gm.gn true G.rs G.ns.length).getD m false=false∧(Gm.hts G).getD m 0=0∧(Gm.best G (Gm.hts G)).getD m 0 = -1):=by
 have hg:=Gm.gn_get (tm:=true) (rs:=G.rs) h.lin (j:=(m:Int)) (by omega)
 rw[Int.toNat_natCast]at hg
 by_cases hp:Gm.Gn true G.rs (m:Int)
 ·obtain⟨i,hi,e,el,_,_⟩:=Gm.best_l h hp
  exact .inl ⟨hg.2 hp,Gm.hts_pos h hp,i,hi,e,el⟩
 ·refine .inr ⟨?_,(Gm.hts_zero h hm).2 hp,Gm.best_no h hm hp⟩
  cases hb:(Gm.gn true G.rs G.ns.length).getD m false
  ·rfl
  ·exact absurd (hg.1 hb) hp
theorem Gm.low2 {G:Gm.Gr} (h:Gm.Ok G) {i m:Nat} (hi:i<G.rs.length) (hm:m<G.ns.length) (hl:G.rs[i].l=(m:Int)):(Gm.allB true (Gm.gn true G.rs G.ns.length) G.rs[i].r=true→(Gm.hts G).getD m 0≤Gm.topH (Gm.hts G) G.rs[i].r+1)∧((Gm.best G (Gm.hts G)).getD m 0=(i:Int)→Gm.allB true (Gm.gn true G.rs G.ns.length) G.rs[i].r=true∧(Gm.hts G).getD m 0=Gm.topH (Gm.hts G) G.rs[i].r+1):=by
 refine⟨fun ha=>?_,fun hb=>?_⟩
 ·have h1:=(Gm.hgt_hi h).le _ (List.getElem_mem hi) ((Gm.allB_gn h.lin _).1 ha)
  rw[hl,Int.toNat_natCast]at h1
  exact h1
 ·by_cases hp:Gm.Gn true G.rs (m:Int)
  ·obtain⟨k,hk,e,_,ha,et⟩:=Gm.best_l h hp
   obtain rfl:k=i:=by omega
   exact⟨(Gm.allB_gn h.lin _).2 ha,et⟩
  ·rw[Gm.best_no h hm hp]at hb
   omega
theorem Gm.allB_takeL {pr:List Bool} {l:List Int} {k:Nat} (h:k<l.length):Gm.allB true pr (l.take (k+1))=(Gm.allB true pr (l.take k)&&(if 0≤l[k] then true else pr.getD (-1-l[k]).toNat false)):=by
 unfold Gm.allB
 rw[List.take_succ_eq_append_getElem h,List.all_append]
 simp
structure RlI14 (nn:Nat) (x:Gm.Rl):Prop where
 i:∀z∈x.r,Gm.In z
 n:∀z∈x.r,z<0→-1-z<(nn:Int)
 l0:0≤x.l
 l1:x.l<(nn:Int)
 c:x.r.length≤6
theorem zh8 {G:Gm.Gr} (hf:Gm.Fit G) (hok:Gm.Ok G) {x:Gm.Rl} (hx:x∈G.rs):RlI14 G.ns.length x :=
 ⟨(hf.r x hx).2.2,fun z hz h=>hok.sin x hx z hz h,(hok.lin x hx).1,(hok.lin x hx).2,(Gm.rule_in (hok.rr x hx)).1⟩
structure R14 (w wr:World) (gh gl gp:Nat) (a:Array Value) (H L:List Int) (P:List Bool):Prop where
 h:UBI wr gh H
 l:UBI wr gl L
 p:UBO wr gp P
 o:One w a wr
theorem R14.below {w wr w':World} {gh gl gp:Nat} {a:Array Value} {H L:List Int} {P:List Bool} (h:R14 w wr gh gl gp a H L P) (hb:Below wr.heap.size wr w'):R14 w w' gh gl gp a H L P:=⟨h.h.below hb h.h.lt,h.l.below hb h.l.lt,h.p.below hb h.p.lt,h.o.on hb⟩
theorem zcC (v:Value) (G:Gm.Gr) (w:World) (hg:aN w w.heap.size v G) (hf:Gm.Fit G) :
  Calls Tryz.prog 6 #[v] w fun e w'=>e=.returned (.bool true)∧Below w.heap.size w w':=by
 have HGG:=aA (fun(x:World) (h:Below w.heap.size w x)=>hg.below h (Nat.le_refl _))
 have HAL:=aA (fun(x:World)=>zaL x)
 have TG:=aA (fun(x:World) (h:Below w.heap.size w x)=>za7 v G w.heap.size x (HGG.out x h) h.size)
 have TR:=aA (fun(x:World) (h:Below w.heap.size w x)=>zaC v G w.heap.size x (HGG.out x h) hf h.size)
 have TH:=aA (fun(q:Gm.right G=true) (x:World) (h:Below w.heap.size w x)=>(zaQ v G w.heap.size x (HGG.out x h) hf h.size).mono fun e w' k=>k.1 q)
 have TL:=aA (fun(q:Gm.right G=true) (x:World) (h:Below w.heap.size w x)=>(zbj v G w.heap.size x (HGG.out x h) hf h.size).mono fun e w' k=>k.1 q)
 have TP:=aA (fun(q:Gm.right G=true) (x:World) (h:Below w.heap.size w x)=>(show Calls _ _ _ _ (zij _ _) from(zbD v G w.heap.size x (HGG.out x h) hf h.size).mono fun e w' k=>k.1 q))
 have HFT:=aA hf
 obtain⟨A0,c0,A1,c1,A2,c2,rfl,_,⟨hlN,hmN⟩,⟨hlR,hmR⟩,_,_,hR⟩:=hg
 have HRl:=aA hR
 have HQ0:=aA (One.start w #[.slice A0 G.ts.length c0,.slice A1 G.ns.length c1,.slice A2 G.rs.length c2,.int .i64 G.st])
 have HXC:=aA (fun(x:World) (h:One w #[.slice A0 G.ts.length c0,.slice A1 G.ns.length c1,.slice A2 G.rs.length c2,.int .i64 G.st] x)=>And.intro (h.c 0 _ rfl) (And.intro (h.c 1 _ rfl) (And.intro (h.c 2 _ rfl) (h.c 3 _ rfl))))
 clear hf hR
 go_enter Tryz.func6,Tryz.ntmps6
 go_wp2_with fail
 refine(HAL.out _).mono ?_;rintro _ w1 ⟨rfl,hb1⟩
 have HQ1:=aA (HQ0.out.on hb1)
 obtain⟨x0,x1,x2,x3⟩:=HXC.out w1 HQ1.out
 clear hb1
 cases hgr:Gm.great G with
 | true =>
  rw[hgr]at TG
  go_wp2_with fail
  refine(TG.out _ HQ1.out.below).mono ?_;rintro _ w2 ⟨rfl,hb2⟩
  have HQ2:=aA (HQ1.out.on hb2)
  clear hb2
  go_wp2
  go_ret
  exact⟨rfl,HQ2.out.below⟩
 | false =>
  rw[hgr]at TG
  cases hrt:Gm.right G with
  | false =>
   rw[hrt]at TR
   go_wp2_with fail
   refine(TG.out _ HQ1.out.below).mono ?_;rintro _ w2 ⟨rfl,hb2⟩
   have HQ2:=aA (HQ1.out.on hb2)
   clear x0 x1 x2 x3 hb2
   obtain⟨x0,x1,x2,x3⟩:=HXC.out w2 HQ2.out
   go_wp2_with fail
   refine(TR.out _ HQ2.out.below).mono ?_;rintro _ w3 ⟨rfl,hb3⟩
   have HQ3:=aA (HQ2.out.on hb3)
   clear hb3
   go_wp2
   go_ret
   exact⟨rfl,HQ3.out.below⟩
  | true =>
   have TH:=aA (TH.out hrt)
   have TL:=aA (TL.out hrt)
   have TP:=aA (TP.out hrt)
   have HOK:=aA (Gm.right_ok.1 hrt)
   have HN:Hid (G.ns.length≤40):=aA (by have:=(Gm.nons_iff G).1 HOK.out.n;omega)
   rw[hrt]at TR
   unfold zij at TP
   rw[Gm.gn_len]at TP
   rw[Gm.htI_len]at TH
   rw[Gm.best_len]at TL
   have HL1:=aA (fun m hm=>Gm.low1 (m:=m) HOK.out hm)
   have HL2:=aA (fun i m hi hm hl=>Gm.low2 (i:=i) (m:=m) HOK.out hi hm hl)
   have HHA:=aA (fun j=>Gm.htI_at (G:=G) j)
   have HTB:=aA (fun l=>Gm.top_le HOK.out l)
   have HSB:=aA (fun j=>Gm.hts_le HOK.out j)
   have HHl:Hid ((Gm.htI G).length=G.ns.length):=aA Gm.htI_len
   have HLl:Hid ((Gm.best G (Gm.hts G)).length=G.ns.length):=aA Gm.best_len
   have HPl:Hid ((Gm.gn true G.rs G.ns.length).length=G.ns.length):=aA (Gm.gn_len ..)
   generalize Gm.htI G=H at *
   generalize Gm.best G (Gm.hts G)=LL at *
   generalize Gm.gn true G.rs G.ns.length=P at *
   generalize Gm.hts G=S at *
   have hnn:=HN.out
   have hlen:(G.ns.length:Int)≤9223372036854775807:=by omega
   have hlen2:(G.rs.length:Int)≤9223372036854775807:=by omega
   have hne:((G.ns.length:Int) != (G.ns.length:Int))=false:=by simp
   clear hgr hrt
   go_wp2_with fail
   refine(TG.out _ HQ1.out.below).mono ?_;rintro _ w2 ⟨rfl,hb2⟩
   have HQ2:=aA (HQ1.out.on hb2)
   clear x0 x1 x2 x3 hb2 TG
   obtain⟨x0,x1,x2,x3⟩:=HXC.out w2 HQ2.out
   go_upto_region 5 with fail
   refine(TR.out _ HQ2.out.below).mono ?_;rintro _ w3 ⟨rfl,hb3⟩
   have HQ3:=aA (HQ2.out.on hb3)
   clear x0 x1 x2 x3 hb3 TR
   go_upto_region 5 with fail
   have q0:=fun y:Calm.On w3.heap.size w3=>(HXC.out y.1 (HQ3.out.on y.2)).1
   have q1:=fun y:Calm.On w3.heap.size w3=>(HXC.out y.1 (HQ3.out.on y.2)).2.1
   have q2:=fun y:Calm.On w3.heap.size w3=>(HXC.out y.1 (HQ3.out.on y.2)).2.2.1
   have q3:=fun y:Calm.On w3.heap.size w3=>(HXC.out y.1 (HQ3.out.on y.2)).2.2.2
   have HSY:Hid (∀z,Below w3.heap.size w3 z→∃q:Calm.On w3.heap.size w3,z=q.1):=aA (fun z hz=>⟨⟨z,hz⟩,rfl⟩)
   have HD:Hid (Below w3.heap.size w3 w3.drew):=aA (aB (Below.refl _ _) 1)
   refine CalmN.region_tree (fun x=>∃y:Calm.On w3.heap.size w3,x=y.1) (.one [0,2] 1 (.one [] 3 (.fin [4,5]))) (by kernel_rfl) (by kernel_rfl) (fun _ _ d _ _ h=>by cases d <;> exact h) ⟨⟨w3.drew,HD.out⟩,rfl⟩ ?_
   simp only[CalmN.wpT,CalmN.wpSt,CalmN.pickOps,List.getElem?_toArray,List.getElem?_cons_zero,List.getElem?_cons_succ]
   repeat (go_big_quiet_step (fail))
   refine wpQuiet_nil ?_
   generalize w3.drew=wd at *
   clear q0 q1 q2 q3
   intro KK hKK
   rw[if_pos (by rfl)]
   go_wp2_with fail
   refine(TH.out wd (HQ3.out.on HD.out).below).mono ?_;rintro _ w4 ⟨gh,rfl,hgh,huh,hb⟩
   have HB4:=aA (HD.out.trans (hb.mono HD.out.size))
   have HUH:=aA huh
   clear hb huh hgh
   go_wp2_with fail
   refine hKK _ _ (HSY.out _ HB4.out) (fun x=>∃y:Calm.On w3.heap.size w3,x=y.1) (fun _ h=>h) (HSY.out _ HB4.out) ?_
   clear hKK
   refine wpQuiet_nil ?_
   intro KK hKK
   rw[if_pos (by rfl)]
   go_wp2_with fail
   refine(TL.out w4 (HQ3.out.on HB4.out).below).mono ?_;rintro _ w5 ⟨gl,rfl,hgl,hul,hb⟩
   have HB5:=aA (HB4.out.trans (hb.mono HB4.out.size))
   have HUH5:=aA (HUH.out.below hb HUH.out.lt)
   have HUL5:=aA hul
   have HQ5:=aA (HQ3.out.on HB5.out)
   clear hb hul hgl TH TL HUH
   go_wp2_with fail
   refine hKK _ _ (HSY.out _ HB5.out) (fun x=>∃y:Calm.On w3.heap.size w3,x=y.1) (fun _ h=>h) (HSY.out _ HB5.out) ?_
   clear hKK
   repeat (go_big_quiet_step (fail))
   refine wpQuiet_nil ?_
   obtain⟨x0,x1,x2,x3⟩:=HXC.out w5 HQ5.out
   go_wp2_with fail
   refine(TP.out w5 HQ5.out.below).mono ?_;rintro _ w6 ⟨gp,rfl,hgp,hup,hb⟩
   have HR6:Hid (R14 w w6 gh gl gp #[.slice A0 G.ts.length c0,.slice A1 G.ns.length c1,.slice A2 G.rs.length c2,.int .i64 G.st] H LL P):=aA ⟨HUH5.out.below hb HUH5.out.lt,HUL5.out.below hb HUL5.out.lt,hup,HQ5.out.on hb⟩
   clear hb hup hgp TP HUH5 HUL5 HQ5 HB4 HB5 HD HSY HQ1 HQ2 HQ3 x0 x1 x2 x3
   obtain⟨x0,x1,x2,x3⟩:=HXC.out w6 HR6.out.o
   have lg:w.heap.size<w6.heap.size:=HR6.out.o.size
   go_wp2
   clear x0 x1 x2 x3 lg hne
   go_loopw [6] (fun vi wr=>∃m:Nat,m≤G.ns.length∧vi=.int .i64 m∧Hid (R14 w wr gh gl gp #[.slice A0 G.ts.length c0,.slice A1 G.ns.length c1,.slice A2 G.rs.length c2,.int .i64 G.st] H LL P)) (fun vi _=>G.ns.length-(intOf vi).toNat)
   case atStart=>exact⟨0,Nat.zero_le _,rfl,HR6⟩
   case round =>
    clear HR6
    obtain⟨m,hm,rfl,HWI⟩:=hrel
    obtain⟨wi,hwi⟩:∃wi:World,wi=wr:=⟨_,rfl⟩
    subst hwi
    by_cases hlt:m<G.ns.length
    ·have q2:=HWI.out.o.c 2 _ rfl
     have lgh:=HWI.out.h.lt
     have lgl:=HWI.out.l.lt
     have lgp:=HWI.out.p.lt
     have kh:=HWI.out.h.cell m (by rw[HHl.out];exact hlt)
     have kl:=HWI.out.l.cell m (by rw[HLl.out];exact hlt)
     have kp:=HWI.out.p.cell m (by rw[HPl.out];exact hlt)
     have ld:w.heap.size<wi.heap.size:=HWI.out.o.size
     have hmi:(m:Int)<(G.ns.length:Int):=by omega
     rw[HHA.out m]at kh
     rcases HL1.out m hlt with⟨ep,eh,i,hi,el,ee⟩|⟨ep,eh,el⟩
     ·rw[ep]at kp
      rw[el]at kl
      obtain⟨g,o,rfl,hgB,hc⟩:=HRl.out (by omega)
      obtain⟨k0,_,_⟩:=hc i hi
      have k0:=(HWI.out.o.below.cell (p:=⟨g,o+i*3,none⟩) hgB).trans k0
      rw[ee]at k0
      have hgs:g<wi.heap.size:=by omega
      have hii:(i:Int)<(G.rs.length:Int):=by omega
      have d1:decide ((0:Int)<(S.getD m 0:Int))=true:=decide_eq_true (by omega)
      have d1b:decide ((S.getD m 0:Int)≤0)=false:=decide_eq_false (by omega)
      have d2b:decide ((i:Int)<0)=false:=decide_eq_false (by omega)
      have d3b:decide ((i:Int)<(G.rs.length:Int))=true:=decide_eq_true (by omega)
      have d2:decide ((0:Int)≤(i:Int))=true:=decide_eq_true (by omega)
      have d3:decide ((G.rs.length:Int)≤(i:Int))=false:=decide_eq_false (by omega)
      have d4:((m:Int) != (m:Int))=false:=by simp
      have d3c:decide (G.rs.length≤i)=false:=decide_eq_false (by omega)
      have d4c:(m != m)=false:=by simp
      obtain⟨zh,hzh⟩:∃z:Int,z=((S.getD m 0:Nat):Int):=⟨_,rfl⟩
      rw[←hzh]at kh d1 d1b
      clear hc ep eh el ee hzh
      go_upto_region 12 with fail
      go_quiet (fail)
      generalize hwq:wi.drewN nq=wj at *
      have HWJ:Hid (R14 w wj gh gl gp #[.slice A0 G.ts.length c0,.slice A1 G.ns.length c1,.slice (some ⟨g,o,none⟩) G.rs.length c2,.int .i64 G.st] H LL P):=aA (by rw[←hwq];exact HWI.out.below (aB (Below.refl _ _) nq))
      clear hwq q2 kh kl kp k0
      go_wp2
      go_roundw
      case rel=>exact⟨m+1,hlt,by go_num,HWJ⟩
      case measure=>simp[intOf];omega
     ·rw[ep]at kp
      rw[el]at kl
      have d1:decide ((0:Int)<(S.getD m 0:Int))=false:=decide_eq_false (by omega)
      have d1b:decide ((S.getD m 0:Int)≤0)=true:=decide_eq_true (by omega)
      have d2b:decide ((-1:Int)<0)=true:=rfl
      have d3b:decide ((-1:Int)<(G.rs.length:Int))=true:=decide_eq_true (by omega)
      have d2:decide ((0:Int)≤(-1:Int))=false:=rfl
      have d3:decide ((G.rs.length:Int)≤(-1:Int))=false:=decide_eq_false (by omega)
      obtain⟨zh,hzh⟩:∃z:Int,z=((S.getD m 0:Nat):Int):=⟨_,rfl⟩
      rw[←hzh]at kh d1 d1b
      obtain⟨zl,hzl⟩:∃z:Int,z = -1:=⟨_,rfl⟩
      rw[←hzl]at kl d2 d2b d3 d3b
      clear ep eh el hzh hzl
      go_upto_region 12 with fail
      go_quiet (fail)
      generalize hwq:wi.drewN nq=wj at *
      have HWJ:Hid (R14 w wj gh gl gp #[.slice A0 G.ts.length c0,.slice A1 G.ns.length c1,.slice A2 G.rs.length c2,.int .i64 G.st] H LL P):=aA (by rw[←hwq];exact HWI.out.below (aB (Below.refl _ _) nq))
      clear hwq q2 kh kl kp
      go_wp2
      go_roundw
      case rel=>exact⟨m+1,hlt,by go_num,HWJ⟩
      case measure=>simp[intOf];omega
    ·obtain rfl:m=G.ns.length:=by omega
     clear hm hlt
     go_wp2
     go_loopw [7] (fun vi wr=>∃i:Nat,i≤G.rs.length∧vi=.int .i64 i∧Hid (R14 w wr gh gl gp #[.slice A0 G.ts.length c0,.slice A1 G.ns.length c1,.slice A2 G.rs.length c2,.int .i64 G.st] H LL P)) (fun vi _=>G.rs.length-(intOf vi).toNat)
     case atStart=>exact⟨0,Nat.zero_le _,rfl,HWI⟩
     case round =>
      clear HWI
      obtain⟨i,hi,rfl,HWI⟩:=hrel
      obtain⟨wi,hwi⟩:∃wi:World,wi=wr:=⟨_,rfl⟩
      subst hwi
      have q2:=HWI.out.o.c 2 _ rfl
      have ld:w.heap.size<wi.heap.size:=HWI.out.o.size
      by_cases hlt2:i<G.rs.length
      ·obtain⟨g,o,rfl,hgB,hc⟩:=HRl.out (by omega)
       obtain⟨k0,⟨A',c',k1,hlc,_,hri⟩,k2⟩:=hc i hlt2
       have k0:=(HWI.out.o.below.cell (p:=⟨g,o+i*3,none⟩) hgB).trans k0
       have k1:=(HWI.out.o.below.cell (p:=⟨g,o+i*3+1,none⟩) hgB).trans k1
       have k2:=(HWI.out.o.below.cell (p:=⟨g,o+i*3+2,none⟩) hgB).trans k2
       have hgs:g<wi.heap.size:=by omega
       have hxm:G.rs[i]∈G.rs:=List.getElem_mem hlt2
       have HXI:=aA (zh8 HFT.out HOK.out hxm)
       have HL:=aA (fun(m:Nat) (hm:m<G.ns.length) (hl:G.rs[i].l=(m:Int))=>HL2.out i m hlt2 hm hl)
       have HRI:Hid (∀z:World,Below w.heap.size w z→RdI z w.heap.size A' G.rs[i].r):=aA (fun z hz=>hri.below hz (Nat.le_refl _))
       generalize G.rs[i]=x at *
       obtain⟨l,r,p⟩:=x
       obtain⟨m,rfl⟩:∃m:Nat,l=(m:Int):=⟨l.toNat,by have:=HXI.out.l0;simp only at this;omega⟩
       simp only at k0 k1 k2 hlc HRI HL
       have hmn:m<G.ns.length:=by have:=HXI.out.l1;simp only at this;omega
       have hmi1:(m:Int)<(G.ns.length:Int):=by omega
       have HMN:=aA hmn
       have HL:=aA (HL.out m hmn rfl)
       have hr6:r.length≤6:=HXI.out.c
       have HR6:=aA hr6
       have hrl:(r.length:Int)≤9223372036854775807:=by omega
       obtain⟨wb,hwb⟩:∃y,y=wi.alloc (.cells #[.int .i64 m,.slice A' r.length c',.int .i64 p] 41):=⟨_,rfl⟩
       have HBX:Hid (wb.heap[wi.heap.size]?=some (.cells #[.int .i64 m,.slice A' r.length c',.int .i64 p] 41 (0,0))):=aA (by rw[hwb];exact heap_alloc_new wi _)
       have HRB:Hid (R14 w wb gh gl gp #[.slice A0 G.ts.length c0,.slice A1 G.ns.length c1,.slice (some ⟨g,o,none⟩) G.rs.length c2,.int .i64 G.st] H LL P):=aA (HWI.out.below (by rw[hwb];exact(Below.refl _ wi).alloc (Nat.le_refl _) _))
       clear hc hri hlc hxm hmn hr6
       go_upto_region 18 with fail
       rw[←hwb]
       clear hwb q2 k0 k1 k2 HWI
       generalize wi.heap.size=bx at *
       clear ld
       go_wp2
       go_loopw [11,9,10] (fun vk vt va wr=>∃(k t:Nat) (b:Bool),k≤r.length∧vk=.int .i64 k∧vt=.int .i64 (t:Int)∧va=.bool b∧Hid (t=Gm.topH S (r.take k))∧Hid (b=Gm.allB true P (r.take k))∧Hid (R14 w wr gh gl gp #[.slice A0 G.ts.length c0,.slice A1 G.ns.length c1,.slice (some ⟨g,o,none⟩) G.rs.length c2,.int .i64 G.st] H LL P)∧Hid (wr.heap[bx]?=some (.cells #[.int .i64 m,.slice A' r.length c',.int .i64 p] 41 (0,0)))) (fun vk _ _ _=>r.length-(intOf vk).toNat)
       case atStart=>exact⟨0,0,true,Nat.zero_le _,rfl,rfl,rfl,aA (by simp[Gm.topH]),aA (by simp[Gm.allB]),HRB,HBX⟩
       case round =>
        clear HRB HBX
        obtain⟨k,t,b,hk,rfl,rfl,rfl,HT,HB,HW2,HBK⟩:=hrel
        obtain⟨wk,hwk⟩:∃wk:World,wk=wr:=⟨_,rfl⟩
        subst hwk
        have lx:=(Array.getElem?_eq_some_iff.1 HBK.out).1
        have e0:=cell_of_row wk _ 0 _ _ _ HBK.out
        have e1:=cell_of_row wk _ 1 _ _ _ HBK.out
        by_cases hlt3:k<r.length
        ·obtain⟨gr,orr,rfl,hgb,hc⟩:=(HRI.out wk HW2.out.o.below) (by omega)
         have lgr:gr<wk.heap.size:=Nat.lt_of_lt_of_le hgb HW2.out.o.below.size
         have k0:=hc k hlt3
         rw[L.gd_lt hlt3]at k0
         have hzi:=HXI.out.i _ (List.getElem_mem hlt3)
         have hzn:=HXI.out.n _ (List.getElem_mem hlt3)
         have HTz:=aA (Gm.topH_take (H:=S) hlt3)
         have HBz:=aA (Gm.allB_takeL (pr:=P) hlt3)
         clear hc
         by_cases h0:r[k]<0
         ·rw[if_neg (show ¬(0:Int)≤r[k] by omega)]at HTz HBz
          generalize r[k]=z at *
          unfold Gm.In at hzi
          have hzl:=hzn h0
          obtain⟨m2,hm2⟩:∃m2:Nat,-1-z=(m2:Int):=⟨(-1-z).toNat,by omega⟩
          rw[hm2]at hzl HTz HBz
          rw[Int.toNat_natCast,←HT.out]at HTz
          rw[Int.toNat_natCast,←HB.out]at HBz
          have hz0:decide (0≤z)=false:=decide_eq_false (by omega)
          have hz1:decide (z<0)=true:=decide_eq_true h0
          have hwz:IntKind.i64.wrap (-1-z)=(m2:Int):=by rw[IntWalk.i64_in _ (by omega)];exact hm2
          have hmi2:(m2:Int)<(G.ns.length:Int):=hzl
          have km:=HW2.out.h.cell m2 (by rw[HHl.out];omega)
          have kp:=HW2.out.p.cell m2 (by rw[HPl.out];omega)
          have lgh:=HW2.out.h.lt
          have lgp:=HW2.out.p.lt
          rw[HHA.out m2]at km
          have hmx:max (t:Int) (S.getD m2 0:Int)=((max t (S.getD m2 0):Nat):Int):=by omega
          generalize S.getD m2 0=hv at *
          generalize P.getD m2 false=pv at *
          have HT2:Hid (max t hv=Gm.topH S (r.take (k+1))):=aA HTz.out.symm
          have HB2:Hid ((b&&pv)=Gm.allB true P (r.take (k+1))):=aA HBz.out.symm
          generalize max t hv=t2 at *
          clear hzi hzn hzl h0 hm2 HTz HBz HT HB
          cases b <;> cases pv
          all_goals
           go_wp2
           go_roundw
           case rel=>exact⟨k+1,t2,_,hlt3,by go_num,rfl,rfl,HT2,HB2,HW2,HBK⟩
           case measure=>simp[intOf];omega
         ·rw[if_pos (show(0:Int)≤r[k] by omega)]at HTz HBz
          have hz0:decide (0≤r[k])=true:=decide_eq_true (by omega)
          have hz1:decide (r[k]<0)=false:=decide_eq_false h0
          have HT2:Hid (t=Gm.topH S (r.take (k+1))):=aA (by rw[HTz.out];exact HT.out)
          have HB2:Hid (b=Gm.allB true P (r.take (k+1))):=aA (by rw[HBz.out,Bool.and_true];exact HB.out)
          generalize r[k]=z at *
          clear hzi hzn h0 HTz HBz HT HB
          go_wp2
          go_roundw
          case rel=>exact⟨k+1,t,b,hlt3,by go_num,rfl,rfl,HT2,HB2,HW2,HBK⟩
          case measure=>simp[intOf];omega
        ·obtain rfl:k=r.length:=by omega
         rw[List.take_length]at HT HB
         have htb:t≤40:=by have:=HTB.out r;have:=HN.out;rw[HT.out];omega
         have hw2:IntKind.i64.wrap ((t:Int)+1)=((t+1:Nat):Int):=by rw[IntWalk.i64_in _ (by omega)];omega
         have hA:=HL.out
         rw[←HT.out,←HB.out]at hA
         obtain⟨hA1,hA2⟩:=hA
         have kh:=HW2.out.h.cell m (by rw[HHl.out];exact HMN.out)
         have kl:=HW2.out.l.cell m (by rw[HLl.out];exact HMN.out)
         have lgh:=HW2.out.h.lt
         have lgl:=HW2.out.l.lt
         rw[HHA.out m]at kh
         obtain⟨z1,hz1⟩:∃z:Int,z=((t+1:Nat):Int):=⟨_,rfl⟩
         obtain⟨zh,hzh⟩:∃z:Int,z=((S.getD m 0:Nat):Int):=⟨_,rfl⟩
         rw[←hz1]at hw2
         rw[←hzh]at kh
         replace hA1:b=true→zh≤z1:=fun h=>by have:=hA1 h;omega
         replace hA2:LL.getD m 0=(i:Int)→b=true∧zh=z1:=fun h=>by have:=hA2 h;exact⟨this.1,by omega⟩
         clear hz1 hzh
         generalize LL.getD m 0=lv at *
         clear HT HB HL htb hk hlt3
         cases b with
         | true =>
          have hA1:=hA1 rfl
          have d1:decide (z1<zh)=false:=decide_eq_false (by omega)
          have d1b:decide (zh≤z1)=true:=decide_eq_true (by omega)
          by_cases hb:lv=(i:Int)
          ·have hE:=(hA2 hb).2
           clear hA1 hA2
           subst hb
           subst hE
           have d2:((i:Int)==(i:Int))=true:=by simp
           have d3:(zh != zh)=false:=by simp
           go_wp2
           go_roundw
           case rel=>exact⟨i+1,hlt2,by go_num,HW2⟩
           case measure=>simp[intOf];omega
          ·have d2:(lv==(i:Int))=false:=beq_eq_false_iff_ne.2 hb
           clear hA1 hA2 hb
           go_wp2
           go_roundw
           case rel=>exact⟨i+1,hlt2,by go_num,HW2⟩
           case measure=>simp[intOf];omega
         | false =>
          have d2:(lv==(i:Int))=false:=beq_eq_false_iff_ne.2 (fun hb=>by have:=(hA2 hb).1;simp at this)
          clear hA1 hA2
          go_wp2
          go_roundw
          case rel=>exact⟨i+1,hlt2,by go_num,HW2⟩
          case measure=>simp[intOf];omega
      ·obtain rfl:i=G.rs.length:=by omega
       go_wp2
       go_ret
       exact⟨rfl,HWI.out.o.below⟩
end Go.Proofs.YtcgclkndkahgaaaGreat
