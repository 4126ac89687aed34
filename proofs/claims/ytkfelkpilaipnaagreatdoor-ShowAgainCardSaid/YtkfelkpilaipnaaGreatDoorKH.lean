/- Part of the proofs over this program: BldG, BldH, CalmN, BldI, BldJ, BldK. -/
import Derived.Test.YtkfelkpilaipnaaGreatDoorKG
namespace Go.Proofs.YtkfelkpilaipnaaGreatDoor
set_option maxRecDepth 100000
set_option maxHeartbeats 40000000
open Go.RowKit
structure Inv1 (S:St):Prop where
 n:S.ns=[]
 t:S.s.ts.length≤24
 s:∀y,S.s.st=some y→T.isName y.t=true
theorem zdx {ts ts':List Gm.Tm} {x:Tok} {n:Int} (h:Gm.put ts x=.ok (ts',n)) (hl:ts.length≤24):ts'.length≤24:=by
 rcases Gm.put_ok h with⟨j,_,h2,_⟩|⟨_,h2,_,h4⟩
 ·rw[h2];exact hl
 ·rw[h2,List.length_append,List.length_singleton];omega
theorem zbc {k:Int} {s s':Gm.S1} {x:Tok} (h:Gm.decl1 k s x=.ok s') (hl:s.ts.length≤24) (h7:k=7→T.isName x.t=true) (hs:∀y,s.st=some y→T.isName y.t=true):s'.ts.length≤24∧∀y,s'.st=some y→T.isName y.t=true:=by
 unfold Gm.decl1 at h
 by_cases e7:k=7
 ·rw[if_pos e7]at h
  split at h
  ·cases h
  ·injection h with h;subst h
   exact⟨hl,fun y hy=>by injection hy with hy;subst hy;exact h7 e7⟩
 ·rw[if_neg e7]at h
  by_cases e3:k=3
  ·rw[if_pos e3]at h
   split at h
   ·cases h
   ·obtain⟨⟨ts',n⟩,hp,h⟩:=Gm.R.bind_eq h
    injection h with h;subst h
    exact⟨zdx hp hl,hs⟩
  ·rw[if_neg e3]at h
   split at h
   ·cases h
   ·obtain⟨⟨ts',n⟩,hp,h⟩:=Gm.R.bind_eq h
    injection h with h;subst h
    refine⟨?_,hs⟩
    rw[List.length_modify]
    exact zdx hp hl
theorem zaO {k:Int} {s:Gm.S1} {xs:List Tok} {i:Nat} (h:i<xs.length):Gm.declN k s (xs.drop i)=(Gm.decl1 k s xs[i]).bind fun s=>Gm.declN k s (xs.drop (i+1)):=by
 rw[List.drop_eq_getElem_cons h,Gm.declN]
theorem zba {k:Int} {s:Gm.S1} {xs:List Tok} {i:Nat} (h:xs.length≤i):Gm.declN k s (xs.drop i)=.ok s:=by
 rw[List.drop_eq_nil_of_le h,Gm.declN]
def zkM (L:List Int) (w':World) (B N R:Nat) (S:St) (r:Gm.R Gm.S1) (e:Ending):Prop:=match r with
 | .ok s=>e=.returned (.tuple #[.complex .f64 0 0,.int .i64 0])∧Bld L w' B N R {S with s:=s}∧Inv1 {S with s:=s}
 | .bad y er=>er≠0∧e=.returned (.tuple #[.complex .f64 (rfX L y) (rfY L y),.int .i64 er])
def upS (k:Int) (S:St):St:={S with s:=Gm.up k S.s}
theorem zhO (L:List Int) (B N R:Nat) (k:Int) (hk:k=3∨k=4∨k=5∨k=6∨k=7) (xs:List Tok) (h7:k=7→∀x∈xs,T.isName x.t=true) (hx:∀x∈xs,Gm.named x.t=true∧K.Bytes x.t) (i:Nat) (hi:i<xs.length) (S':St) (w:World) (hb:Bld L w B N R S') (hv:Inv1 S') (hB:B≤w.heap.size) :
  Calls Tryz.prog 123 #[.pointer (some ⟨R,0,none⟩),.int .i64 k,.agg #[.string (K.str xs[i].t),.complex .f64 (rfX L xs[i]) (rfY L xs[i])]] w fun e w'=>e=.returned (.int .i64 (NmA k S' xs[i]).1)∧Bld L w' B N R (NmA k S' xs[i]).2∧Below B w w'∧aJ w w':=by
 have hm:=List.getElem_mem hi
 exact zhQ L B N R k hk S' xs[i] w hb (Gm.tx_named (hx _ hm)) (hx _ hm).1 (fun h=>h7 h _ hm) hv.s (by rw[hv.n];show(-1:Int)<0;decide) hB hv.t
theorem zhN (L:List Int) (B N R:Nat) (S:St) (d:Y.Dcl) (A:Option Addr) (c:Nat) (w:World) (hb:Bld L w B N R S) (hk:d.k=3∨d.k=4∨d.k=5∨d.k=6∨d.k=7) (h7:d.k=7→∀x∈d.ns,T.isName x.t=true) (hx:∀x∈d.ns,Gm.named x.t=true∧K.Bytes x.t) (hr:zjF L w B A d.ns) (hv:Inv1 S) (hl:0≤S.s.lv∧S.s.lv≤1000000) (hB:B≤w.heap.size) (hlen:d.ns.length≤1000000) :
  Calls Tryz.prog 86 #[.pointer (some ⟨R,0,none⟩),.agg #[.int .i64 d.k,.slice A d.ns.length c]] w fun e w'=>zkM L w' B N R S (Gm.declN d.k (Gm.up d.k S.s) d.ns) e∧Below B w w'∧aJ w w':=by
 have SC:=fun a w m X Y=>show(store a (.complex .f64 X Y) m).run Tryz.prog w=stored Tryz.prog w a (.complex .f64 X Y) m from run_store _ w a _ m rfl
 have HR:=aA hr
 have HNL:=aA (fun(i:Nat) (hi:i<d.ns.length) (S':St) (y:World) (hb:Bld L y B N R S') (hv:Inv1 S') (hB:B≤y.heap.size)=>zhO L B N R d.k hk d.ns h7 hx i hi S' y hb hv hB)
 have HAN:=aA (fun(S':St) (x:Tok)=>zkq d.k hk S' x)
 have H7:=aA (fun(i:Nat) (hi:i<d.ns.length) (h:d.k=7)=>h7 h _ (List.getElem_mem hi))
 have HIV:Hid (Inv1 (upS d.k S)):=aA (by
  unfold upS Gm.up
  split
  ·exact hv
  ·exact⟨hv.n,hv.t,hv.s⟩)
 obtain⟨vT,vN,vR,Ms,Mt,ml,tl,h⟩:=id hb
 have HB1:=aA h.w
 have HBK:Hid ((w.alloc (.cells #[.int .i64 d.k,.slice A d.ns.length c] 131)).heap[w.heap.size]?=some (.cells #[.int .i64 d.k,.slice A d.ns.length c] 131 (0,0))):=aA (heap_alloc_new w _)
 have c6:w.cell? ⟨R,6,none⟩=some (.int .i64 S.s.lv):=cell_of_row w R 6 _ _ _ h.w.b
 have f6:=frozen_of_row w R 6 _ _ h.w.b
 have hRs:=(Array.getElem?_eq_some_iff.1 h.w.b).1
 have HSO:=aA (And.intro h.so h.ko)
 have hBR:=h.w.hR
 have HW0:=aA (((Below.refl B w).alloc hB (.cells #[.int .i64 d.k,.slice A d.ns.length c] 131)))
 have HK0:=aA (aJ.below ((Below.refl w.heap.size w).alloc (Nat.le_refl _) (.cells #[.int .i64 d.k,.slice A d.ns.length c] 131)))
 obtain⟨dk,dns⟩:=d
 simp only at hk HR HNL HAN H7 HIV HB1 HBK HW0 HK0 hlen ⊢
 clear h hr hb hx h7
 rcases hk with rfl|rfl|rfl|rfl|rfl
 ·have HU:Hid (upS 3 S=S):=aA (by unfold upS Gm.up;rw[if_pos (by decide)])
  have HB2:Hid (Bld L (w.alloc (.cells #[.int .i64 3,.slice A dns.length c] 131)) B N R (upS 3 S)):=aA (by rw[HU.out];exact⟨vT,vN,vR,Ms,Mt,ml,tl,⟨HB1.out.alloc _,HSO.out.1,HSO.out.2⟩⟩)
  have HW2:=aA HW0.out
  have HK2:=aA HK0.out
  have HX2:=aA HBK.out
  clear HW0 HK0 HBK HB1 HSO
  go_enter Tryz.func86,Tryz.ntmps86
  go_wp2
  go_loopw [32] (fun vi wr=>∃(i:Nat) (S':St),i≤dns.length∧vi=.int .i64 i∧Hid (Gm.declN 3 (Gm.up 3 S.s) dns=Gm.declN 3 S'.s (dns.drop i))∧Hid (∀s,({S with s:=s}:St) = {S' with s:=s})∧Hid (Inv1 S')∧Hid (Bld L wr B N R S')∧Below B w wr∧Hid (aJ w wr)∧Hid (wr.heap[w.heap.size]?=some (.cells #[.int .i64 3,.slice A dns.length c] 131 (0,0)))) (fun vi _=>dns.length-(intOf vi).toNat)
  case atStart=>exact⟨0,upS 3 S,Nat.zero_le _,rfl,aA rfl,aA (fun _=>rfl),HIV,HB2,HW2.out,HK2,HX2⟩
  case round =>
   clear c6 f6 HB2 HW2 HK2 HX2
   obtain⟨i,S',hi,rfl,HE,HS,HV,HBL,hbw,HKT,HBX⟩:=hrel
   have HBW:=aA hbw
   have hsz:w.heap.size<wr.heap.size:=(Array.getElem?_eq_some_iff.1 HBX.out).1
   have b0:=cell_of_row wr _ 0 _ _ _ HBX.out
   have b1:=cell_of_row wr _ 1 _ _ _ HBX.out
   clear hbw
   by_cases hlt:i<dns.length
   ·obtain⟨g,o,rfl,hgB,hc⟩:=HR.out (by omega)
    have k0:=(HBW.out.cell (p:=⟨g,o+i*2,none⟩) hgB).trans (hc i hlt).1
    have k1:=(HBW.out.cell (p:=⟨g,o+i*2+1,none⟩) hgB).trans (hc i hlt).2
    have hgs:g<wr.heap.size:=by omega
    have HCB:=aA (HBL.out.alloc (.cells #[.string (K.str dns[i].t),.complex .f64 (rfX L dns[i]) (rfY L dns[i])] 90))
    have HCW:=aA (HBW.out.alloc (Nat.le_trans hB HBW.out.size) (.cells #[.string (K.str dns[i].t),.complex .f64 (rfX L dns[i]) (rfY L dns[i])] 90))
    have HCK:=aA (HKT.out.trans (aJ.below ((Below.refl wr.heap.size wr).alloc (Nat.le_refl _) (.cells #[.string (K.str dns[i].t),.complex .f64 (rfX L dns[i]) (rfY L dns[i])] 90))))
    have HCX:=aA ((Below.heap_alloc wr (.cells #[.string (K.str dns[i].t),.complex .f64 (rfX L dns[i]) (rfY L dns[i])] 90) w.heap.size hsz).trans HBX.out)
    have HCR:=aA (heap_alloc_new wr (.cells #[.string (K.str dns[i].t),.complex .f64 (rfX L dns[i]) (rfY L dns[i])] 90))
    have HC:=aA (HNL.out i hlt S' _ HCB.out HV.out (Nat.le_trans hB HCW.out.size))
    have HA:=aA (HAN.out S' dns[i])
    have HD:=aA (zaO (k:=3) (s:=S'.s) hlt)
    have HL:=aA (fun s (h:Gm.decl1 3 S'.s dns[i]=.ok s)=>zbc h HV.out.t (H7.out i hlt) HV.out.s)
    clear hc
    generalize dns[i]=x at *
    cases q:Gm.decl1 3 S'.s x with
    | ok s =>
     have HX:=aA (HE.out.trans (HD.out.trans (by rw[q,Gm.R.bind_ok])))
     have HLL:=aA (HL.out s q)
     have ha:=HA.out
     rw[q]at ha
     have ha:NmA 3 S' x=(0,{S' with s:=s}):=ha
     rw[ha]at HC
     clear ha HA HL q HD
     generalize rfX L x=X at *
     generalize rfY L x=Y at *
     generalize K.str x.t=sx at *
     go_wp2_with fail
     refine HC.out.mono ?_;rintro _ w2 ⟨rfl,hb2,hw2,hk2⟩
     have H2:=aA (And.intro hb2 (And.intro (HCW.out.trans hw2) (And.intro (HCK.out.trans hk2) (hk2 _ _ _ HCX.out (by decide) (by decide)))))
     clear hb2 hw2 hk2
     go_wp2
     go_roundw
     case rel=>exact⟨i+1,{S' with s:=s},hlt,by go_num,HX,aA (fun s'=>HS.out s'),aA ⟨HV.out.n,HLL.out.1,HLL.out.2⟩,aA H2.out.1,H2.out.2.1,aA H2.out.2.2.1,aA H2.out.2.2.2⟩
     case measure=>simp[intOf];omega
    | bad y er =>
     have HX:=aA (HE.out.trans (HD.out.trans (by rw[q,Gm.R.bind_bad])))
     have ha:=HA.out
     rw[q]at ha
     obtain⟨ha1,ha2,ha3⟩:(NmA 3 S' x).1=er∧er≠0∧y=x:=ha
     subst ha3
     rw[ha1]at HC
     have her:(er != 0)=true:=by simpa using ha2
     have HER:=aA ha2
     clear ha1 ha2 HA HL q HD
     generalize (NmA 3 S' y).2=S2 at *
     have HXY:Hid (∀X Y,X=rfX L y→Y=rfY L y→zkM L w B N R S (.bad y er) (.returned (.tuple #[.complex .f64 X Y,.int .i64 er]))):=aA (fun X Y h1 h2=>by subst h1 h2;exact⟨HER.out,rfl⟩)
     obtain⟨X,hX⟩:∃X,X=rfX L y:=⟨_,rfl⟩
     obtain⟨Y,hY⟩:∃Y,Y=rfY L y:=⟨_,rfl⟩
     rw[←hX,←hY]at k1 HC HCB HCW HCK HCX HCR
     have HXX:=aA hX
     have HYY:=aA hY
     clear hX hY
     generalize K.str y.t=sx at *
     go_wp2_with fail
     refine HC.out.mono ?_;rintro _ w2 ⟨rfl,hb2,hw2,hk2⟩
     have H2:=aA (And.intro (HCW.out.trans hw2) (HCK.out.trans hk2))
     have hrr:=hk2 _ _ _ HCR.out (by decide) (by decide)
     have r1:=cell_of_row w2 _ 1 _ _ _ hrr
     have hrz:=(Array.getElem?_eq_some_iff.1 hrr).1
     clear hb2 hw2 hk2 hrr
     go_wp2
     go_ret2
     refine⟨?_,H2.out⟩
     rw[HX.out]
     exact HXY.out _ _ HXX.out HYY.out
   ·obtain rfl:i=dns.length:=by omega
    have HX:=aA (HE.out.trans (zba (Nat.le_refl _)))
    go_wp2
    go_ret2
    refine⟨?_,HBW.out,HKT.out⟩
    rw[HX.out]
    exact⟨rfl,by rw[HS.out S'.s];exact HBL.out,by rw[HS.out S'.s];exact HV.out⟩
 ·have HU:Hid (upS 4 S = {S with s:={S.s with lv:=S.s.lv+1} }):=aA (by unfold upS Gm.up;rw[if_neg (by decide)])
  have HB2:Hid (Bld L ((w.setCell ⟨R,6,none⟩ (.int .i64 (S.s.lv+1))).alloc (.cells #[.int .i64 4,.slice A dns.length c] 131)) B N R (upS 4 S)):=aA (by rw[HU.out];exact⟨vT,vN,vR,Ms,Mt,ml,tl,⟨(HB1.out.set 6 _).alloc _,HSO.out.1,HSO.out.2⟩⟩)
  have HW2:Hid (Below B w ((w.setCell ⟨R,6,none⟩ (.int .i64 (S.s.lv+1))).alloc (.cells #[.int .i64 4,.slice A dns.length c] 131))):=aA (((Below.refl B w).setCell hBR _).alloc (by rw[aT];exact hB) _)
  have HK2:Hid (aJ w ((w.setCell ⟨R,6,none⟩ (.int .i64 (S.s.lv+1))).alloc (.cells #[.int .i64 4,.slice A dns.length c] 131))):=aA ((aJ.cells (aD (World.grownBy.refl _ _) _ _) HB1.out.b (.inl rfl)).trans (aJ.below ((Below.refl _ _).alloc (Nat.le_refl _) _)))
  have HX2:Hid (((w.setCell ⟨R,6,none⟩ (.int .i64 (S.s.lv+1))).alloc (.cells #[.int .i64 4,.slice A dns.length c] 131)).heap[w.heap.size]?=some (.cells #[.int .i64 4,.slice A dns.length c] 131 (0,0))):=aA (by have h:=heap_alloc_new (w.setCell ⟨R,6,none⟩ (.int .i64 (S.s.lv+1))) (.cells #[.int .i64 4,.slice A dns.length c] 131);rw[aT]at h;exact h)
  have hwr:IntKind.i64.wrap (S.s.lv+1)=S.s.lv+1:=IntWalk.i64_in _ (by omega)
  clear HW0 HK0 HBK HB1 HSO
  go_enter Tryz.func86,Tryz.ntmps86
  go_wp2
  go_loopw [32] (fun vi wr=>∃(i:Nat) (S':St),i≤dns.length∧vi=.int .i64 i∧Hid (Gm.declN 4 (Gm.up 4 S.s) dns=Gm.declN 4 S'.s (dns.drop i))∧Hid (∀s,({S with s:=s}:St) = {S' with s:=s})∧Hid (Inv1 S')∧Hid (Bld L wr B N R S')∧Below B w wr∧Hid (aJ w wr)∧Hid (wr.heap[w.heap.size]?=some (.cells #[.int .i64 4,.slice A dns.length c] 131 (0,0)))) (fun vi _=>dns.length-(intOf vi).toNat)
  case atStart=>exact⟨0,upS 4 S,Nat.zero_le _,rfl,aA rfl,aA (fun _=>rfl),HIV,HB2,HW2.out,HK2,HX2⟩
  case round =>
   clear c6 f6 HB2 HW2 HK2 HX2 hwr
   obtain⟨i,S',hi,rfl,HE,HS,HV,HBL,hbw,HKT,HBX⟩:=hrel
   have HBW:=aA hbw
   have hsz:w.heap.size<wr.heap.size:=(Array.getElem?_eq_some_iff.1 HBX.out).1
   have b0:=cell_of_row wr _ 0 _ _ _ HBX.out
   have b1:=cell_of_row wr _ 1 _ _ _ HBX.out
   clear hbw
   by_cases hlt:i<dns.length
   ·obtain⟨g,o,rfl,hgB,hc⟩:=HR.out (by omega)
    have k0:=(HBW.out.cell (p:=⟨g,o+i*2,none⟩) hgB).trans (hc i hlt).1
    have k1:=(HBW.out.cell (p:=⟨g,o+i*2+1,none⟩) hgB).trans (hc i hlt).2
    have hgs:g<wr.heap.size:=by omega
    have HCB:=aA (HBL.out.alloc (.cells #[.string (K.str dns[i].t),.complex .f64 (rfX L dns[i]) (rfY L dns[i])] 90))
    have HCW:=aA (HBW.out.alloc (Nat.le_trans hB HBW.out.size) (.cells #[.string (K.str dns[i].t),.complex .f64 (rfX L dns[i]) (rfY L dns[i])] 90))
    have HCK:=aA (HKT.out.trans (aJ.below ((Below.refl wr.heap.size wr).alloc (Nat.le_refl _) (.cells #[.string (K.str dns[i].t),.complex .f64 (rfX L dns[i]) (rfY L dns[i])] 90))))
    have HCX:=aA ((Below.heap_alloc wr (.cells #[.string (K.str dns[i].t),.complex .f64 (rfX L dns[i]) (rfY L dns[i])] 90) w.heap.size hsz).trans HBX.out)
    have HCR:=aA (heap_alloc_new wr (.cells #[.string (K.str dns[i].t),.complex .f64 (rfX L dns[i]) (rfY L dns[i])] 90))
    have HC:=aA (HNL.out i hlt S' _ HCB.out HV.out (Nat.le_trans hB HCW.out.size))
    have HA:=aA (HAN.out S' dns[i])
    have HD:=aA (zaO (k:=4) (s:=S'.s) hlt)
    have HL:=aA (fun s (h:Gm.decl1 4 S'.s dns[i]=.ok s)=>zbc h HV.out.t (H7.out i hlt) HV.out.s)
    clear hc
    generalize dns[i]=x at *
    cases q:Gm.decl1 4 S'.s x with
    | ok s =>
     have HX:=aA (HE.out.trans (HD.out.trans (by rw[q,Gm.R.bind_ok])))
     have HLL:=aA (HL.out s q)
     have ha:=HA.out
     rw[q]at ha
     have ha:NmA 4 S' x=(0,{S' with s:=s}):=ha
     rw[ha]at HC
     clear ha HA HL q HD
     generalize rfX L x=X at *
     generalize rfY L x=Y at *
     generalize K.str x.t=sx at *
     go_wp2_with fail
     refine HC.out.mono ?_;rintro _ w2 ⟨rfl,hb2,hw2,hk2⟩
     have H2:=aA (And.intro hb2 (And.intro (HCW.out.trans hw2) (And.intro (HCK.out.trans hk2) (hk2 _ _ _ HCX.out (by decide) (by decide)))))
     clear hb2 hw2 hk2
     go_wp2
     go_roundw
     case rel=>exact⟨i+1,{S' with s:=s},hlt,by go_num,HX,aA (fun s'=>HS.out s'),aA ⟨HV.out.n,HLL.out.1,HLL.out.2⟩,aA H2.out.1,H2.out.2.1,aA H2.out.2.2.1,aA H2.out.2.2.2⟩
     case measure=>simp[intOf];omega
    | bad y er =>
     have HX:=aA (HE.out.trans (HD.out.trans (by rw[q,Gm.R.bind_bad])))
     have ha:=HA.out
     rw[q]at ha
     obtain⟨ha1,ha2,ha3⟩:(NmA 4 S' x).1=er∧er≠0∧y=x:=ha
     subst ha3
     rw[ha1]at HC
     have her:(er != 0)=true:=by simpa using ha2
     have HER:=aA ha2
     clear ha1 ha2 HA HL q HD
     generalize (NmA 4 S' y).2=S2 at *
     have HXY:Hid (∀X Y,X=rfX L y→Y=rfY L y→zkM L w B N R S (.bad y er) (.returned (.tuple #[.complex .f64 X Y,.int .i64 er]))):=aA (fun X Y h1 h2=>by subst h1 h2;exact⟨HER.out,rfl⟩)
     obtain⟨X,hX⟩:∃X,X=rfX L y:=⟨_,rfl⟩
     obtain⟨Y,hY⟩:∃Y,Y=rfY L y:=⟨_,rfl⟩
     rw[←hX,←hY]at k1 HC HCB HCW HCK HCX HCR
     have HXX:=aA hX
     have HYY:=aA hY
     clear hX hY
     generalize K.str y.t=sx at *
     go_wp2_with fail
     refine HC.out.mono ?_;rintro _ w2 ⟨rfl,hb2,hw2,hk2⟩
     have H2:=aA (And.intro (HCW.out.trans hw2) (HCK.out.trans hk2))
     have hrr:=hk2 _ _ _ HCR.out (by decide) (by decide)
     have r1:=cell_of_row w2 _ 1 _ _ _ hrr
     have hrz:=(Array.getElem?_eq_some_iff.1 hrr).1
     clear hb2 hw2 hk2 hrr
     go_wp2
     go_ret2
     refine⟨?_,H2.out⟩
     rw[HX.out]
     exact HXY.out _ _ HXX.out HYY.out
   ·obtain rfl:i=dns.length:=by omega
    have HX:=aA (HE.out.trans (zba (Nat.le_refl _)))
    go_wp2
    go_ret2
    refine⟨?_,HBW.out,HKT.out⟩
    rw[HX.out]
    exact⟨rfl,by rw[HS.out S'.s];exact HBL.out,by rw[HS.out S'.s];exact HV.out⟩
 ·have HU:Hid (upS 5 S = {S with s:={S.s with lv:=S.s.lv+1} }):=aA (by unfold upS Gm.up;rw[if_neg (by decide)])
  have HB2:Hid (Bld L ((w.setCell ⟨R,6,none⟩ (.int .i64 (S.s.lv+1))).alloc (.cells #[.int .i64 5,.slice A dns.length c] 131)) B N R (upS 5 S)):=aA (by rw[HU.out];exact⟨vT,vN,vR,Ms,Mt,ml,tl,⟨(HB1.out.set 6 _).alloc _,HSO.out.1,HSO.out.2⟩⟩)
  have HW2:Hid (Below B w ((w.setCell ⟨R,6,none⟩ (.int .i64 (S.s.lv+1))).alloc (.cells #[.int .i64 5,.slice A dns.length c] 131))):=aA (((Below.refl B w).setCell hBR _).alloc (by rw[aT];exact hB) _)
  have HK2:Hid (aJ w ((w.setCell ⟨R,6,none⟩ (.int .i64 (S.s.lv+1))).alloc (.cells #[.int .i64 5,.slice A dns.length c] 131))):=aA ((aJ.cells (aD (World.grownBy.refl _ _) _ _) HB1.out.b (.inl rfl)).trans (aJ.below ((Below.refl _ _).alloc (Nat.le_refl _) _)))
  have HX2:Hid (((w.setCell ⟨R,6,none⟩ (.int .i64 (S.s.lv+1))).alloc (.cells #[.int .i64 5,.slice A dns.length c] 131)).heap[w.heap.size]?=some (.cells #[.int .i64 5,.slice A dns.length c] 131 (0,0))):=aA (by have h:=heap_alloc_new (w.setCell ⟨R,6,none⟩ (.int .i64 (S.s.lv+1))) (.cells #[.int .i64 5,.slice A dns.length c] 131);rw[aT]at h;exact h)
  have hwr:IntKind.i64.wrap (S.s.lv+1)=S.s.lv+1:=IntWalk.i64_in _ (by omega)
  clear HW0 HK0 HBK HB1 HSO
  go_enter Tryz.func86,Tryz.ntmps86
  go_wp2
  go_loopw [32] (fun vi wr=>∃(i:Nat) (S':St),i≤dns.length∧vi=.int .i64 i∧Hid (Gm.declN 5 (Gm.up 5 S.s) dns=Gm.declN 5 S'.s (dns.drop i))∧Hid (∀s,({S with s:=s}:St) = {S' with s:=s})∧Hid (Inv1 S')∧Hid (Bld L wr B N R S')∧Below B w wr∧Hid (aJ w wr)∧Hid (wr.heap[w.heap.size]?=some (.cells #[.int .i64 5,.slice A dns.length c] 131 (0,0)))) (fun vi _=>dns.length-(intOf vi).toNat)
  case atStart=>exact⟨0,upS 5 S,Nat.zero_le _,rfl,aA rfl,aA (fun _=>rfl),HIV,HB2,HW2.out,HK2,HX2⟩
  case round =>
   clear c6 f6 HB2 HW2 HK2 HX2 hwr
   obtain⟨i,S',hi,rfl,HE,HS,HV,HBL,hbw,HKT,HBX⟩:=hrel
   have HBW:=aA hbw
   have hsz:w.heap.size<wr.heap.size:=(Array.getElem?_eq_some_iff.1 HBX.out).1
   have b0:=cell_of_row wr _ 0 _ _ _ HBX.out
   have b1:=cell_of_row wr _ 1 _ _ _ HBX.out
   clear hbw
   by_cases hlt:i<dns.length
   ·obtain⟨g,o,rfl,hgB,hc⟩:=HR.out (by omega)
    have k0:=(HBW.out.cell (p:=⟨g,o+i*2,none⟩) hgB).trans (hc i hlt).1
    have k1:=(HBW.out.cell (p:=⟨g,o+i*2+1,none⟩) hgB).trans (hc i hlt).2
    have hgs:g<wr.heap.size:=by omega
    have HCB:=aA (HBL.out.alloc (.cells #[.string (K.str dns[i].t),.complex .f64 (rfX L dns[i]) (rfY L dns[i])] 90))
    have HCW:=aA (HBW.out.alloc (Nat.le_trans hB HBW.out.size) (.cells #[.string (K.str dns[i].t),.complex .f64 (rfX L dns[i]) (rfY L dns[i])] 90))
    have HCK:=aA (HKT.out.trans (aJ.below ((Below.refl wr.heap.size wr).alloc (Nat.le_refl _) (.cells #[.string (K.str dns[i].t),.complex .f64 (rfX L dns[i]) (rfY L dns[i])] 90))))
    have HCX:=aA ((Below.heap_alloc wr (.cells #[.string (K.str dns[i].t),.complex .f64 (rfX L dns[i]) (rfY L dns[i])] 90) w.heap.size hsz).trans HBX.out)
    have HCR:=aA (heap_alloc_new wr (.cells #[.string (K.str dns[i].t),.complex .f64 (rfX L dns[i]) (rfY L dns[i])] 90))
    have HC:=aA (HNL.out i hlt S' _ HCB.out HV.out (Nat.le_trans hB HCW.out.size))
    have HA:=aA (HAN.out S' dns[i])
    have HD:=aA (zaO (k:=5) (s:=S'.s) hlt)
    have HL:=aA (fun s (h:Gm.decl1 5 S'.s dns[i]=.ok s)=>zbc h HV.out.t (H7.out i hlt) HV.out.s)
    clear hc
    generalize dns[i]=x at *
    cases q:Gm.decl1 5 S'.s x with
    | ok s =>
     have HX:=aA (HE.out.trans (HD.out.trans (by rw[q,Gm.R.bind_ok])))
     have HLL:=aA (HL.out s q)
     have ha:=HA.out
     rw[q]at ha
     have ha:NmA 5 S' x=(0,{S' with s:=s}):=ha
     rw[ha]at HC
     clear ha HA HL q HD
     generalize rfX L x=X at *
     generalize rfY L x=Y at *
     generalize K.str x.t=sx at *
     go_wp2_with fail
     refine HC.out.mono ?_;rintro _ w2 ⟨rfl,hb2,hw2,hk2⟩
     have H2:=aA (And.intro hb2 (And.intro (HCW.out.trans hw2) (And.intro (HCK.out.trans hk2) (hk2 _ _ _ HCX.out (by decide) (by decide)))))
     clear hb2 hw2 hk2
     go_wp2
     go_roundw
     case rel=>exact⟨i+1,{S' with s:=s},hlt,by go_num,HX,aA (fun s'=>HS.out s'),aA ⟨HV.out.n,HLL.out.1,HLL.out.2⟩,aA H2.out.1,H2.out.2.1,aA H2.out.2.2.1,aA H2.out.2.2.2⟩
     case measure=>simp[intOf];omega
    | bad y er =>
     have HX:=aA (HE.out.trans (HD.out.trans (by rw[q,Gm.R.bind_bad])))
     have ha:=HA.out
     rw[q]at ha
     obtain⟨ha1,ha2,ha3⟩:(NmA 5 S' x).1=er∧er≠0∧y=x:=ha
     subst ha3
     rw[ha1]at HC
     have her:(er != 0)=true:=by simpa using ha2
     have HER:=aA ha2
     clear ha1 ha2 HA HL q HD
     generalize (NmA 5 S' y).2=S2 at *
     have HXY:Hid (∀X Y,X=rfX L y→Y=rfY L y→zkM L w B N R S (.bad y er) (.returned (.tuple #[.complex .f64 X Y,.int .i64 er]))):=aA (fun X Y h1 h2=>by subst h1 h2;exact⟨HER.out,rfl⟩)
     obtain⟨X,hX⟩:∃X,X=rfX L y:=⟨_,rfl⟩
     obtain⟨Y,hY⟩:∃Y,Y=rfY L y:=⟨_,rfl⟩
     rw[←hX,←hY]at k1 HC HCB HCW HCK HCX HCR
     have HXX:=aA hX
     have HYY:=aA hY
     clear hX hY
     generalize K.str y.t=sx at *
     go_wp2_with fail
     refine HC.out.mono ?_;rintro _ w2 ⟨rfl,hb2,hw2,hk2⟩
     have H2:=aA (And.intro (HCW.out.trans hw2) (HCK.out.trans hk2))
     have hrr:=hk2 _ _ _ HCR.out (by decide) (by decide)
     have r1:=cell_of_row w2 _ 1 _ _ _ hrr
     have hrz:=(Array.getElem?_eq_some_iff.1 hrr).1
     clear hb2 hw2 hk2 hrr
     go_wp2
     go_ret2
     refine⟨?_,H2.out⟩
     rw[HX.out]
     exact HXY.out _ _ HXX.out HYY.out
   ·obtain rfl:i=dns.length:=by omega
    have HX:=aA (HE.out.trans (zba (Nat.le_refl _)))
    go_wp2
    go_ret2
    refine⟨?_,HBW.out,HKT.out⟩
    rw[HX.out]
    exact⟨rfl,by rw[HS.out S'.s];exact HBL.out,by rw[HS.out S'.s];exact HV.out⟩
 ·have HU:Hid (upS 6 S = {S with s:={S.s with lv:=S.s.lv+1} }):=aA (by unfold upS Gm.up;rw[if_neg (by decide)])
  have HB2:Hid (Bld L ((w.setCell ⟨R,6,none⟩ (.int .i64 (S.s.lv+1))).alloc (.cells #[.int .i64 6,.slice A dns.length c] 131)) B N R (upS 6 S)):=aA (by rw[HU.out];exact⟨vT,vN,vR,Ms,Mt,ml,tl,⟨(HB1.out.set 6 _).alloc _,HSO.out.1,HSO.out.2⟩⟩)
  have HW2:Hid (Below B w ((w.setCell ⟨R,6,none⟩ (.int .i64 (S.s.lv+1))).alloc (.cells #[.int .i64 6,.slice A dns.length c] 131))):=aA (((Below.refl B w).setCell hBR _).alloc (by rw[aT];exact hB) _)
  have HK2:Hid (aJ w ((w.setCell ⟨R,6,none⟩ (.int .i64 (S.s.lv+1))).alloc (.cells #[.int .i64 6,.slice A dns.length c] 131))):=aA ((aJ.cells (aD (World.grownBy.refl _ _) _ _) HB1.out.b (.inl rfl)).trans (aJ.below ((Below.refl _ _).alloc (Nat.le_refl _) _)))
  have HX2:Hid (((w.setCell ⟨R,6,none⟩ (.int .i64 (S.s.lv+1))).alloc (.cells #[.int .i64 6,.slice A dns.length c] 131)).heap[w.heap.size]?=some (.cells #[.int .i64 6,.slice A dns.length c] 131 (0,0))):=aA (by have h:=heap_alloc_new (w.setCell ⟨R,6,none⟩ (.int .i64 (S.s.lv+1))) (.cells #[.int .i64 6,.slice A dns.length c] 131);rw[aT]at h;exact h)
  have hwr:IntKind.i64.wrap (S.s.lv+1)=S.s.lv+1:=IntWalk.i64_in _ (by omega)
  clear HW0 HK0 HBK HB1 HSO
  go_enter Tryz.func86,Tryz.ntmps86
  go_wp2
  go_loopw [32] (fun vi wr=>∃(i:Nat) (S':St),i≤dns.length∧vi=.int .i64 i∧Hid (Gm.declN 6 (Gm.up 6 S.s) dns=Gm.declN 6 S'.s (dns.drop i))∧Hid (∀s,({S with s:=s}:St) = {S' with s:=s})∧Hid (Inv1 S')∧Hid (Bld L wr B N R S')∧Below B w wr∧Hid (aJ w wr)∧Hid (wr.heap[w.heap.size]?=some (.cells #[.int .i64 6,.slice A dns.length c] 131 (0,0)))) (fun vi _=>dns.length-(intOf vi).toNat)
  case atStart=>exact⟨0,upS 6 S,Nat.zero_le _,rfl,aA rfl,aA (fun _=>rfl),HIV,HB2,HW2.out,HK2,HX2⟩
  case round =>
   clear c6 f6 HB2 HW2 HK2 HX2 hwr
   obtain⟨i,S',hi,rfl,HE,HS,HV,HBL,hbw,HKT,HBX⟩:=hrel
   have HBW:=aA hbw
   have hsz:w.heap.size<wr.heap.size:=(Array.getElem?_eq_some_iff.1 HBX.out).1
   have b0:=cell_of_row wr _ 0 _ _ _ HBX.out
   have b1:=cell_of_row wr _ 1 _ _ _ HBX.out
   clear hbw
   by_cases hlt:i<dns.length
   ·obtain⟨g,o,rfl,hgB,hc⟩:=HR.out (by omega)
    have k0:=(HBW.out.cell (p:=⟨g,o+i*2,none⟩) hgB).trans (hc i hlt).1
    have k1:=(HBW.out.cell (p:=⟨g,o+i*2+1,none⟩) hgB).trans (hc i hlt).2
    have hgs:g<wr.heap.size:=by omega
    have HCB:=aA (HBL.out.alloc (.cells #[.string (K.str dns[i].t),.complex .f64 (rfX L dns[i]) (rfY L dns[i])] 90))
    have HCW:=aA (HBW.out.alloc (Nat.le_trans hB HBW.out.size) (.cells #[.string (K.str dns[i].t),.complex .f64 (rfX L dns[i]) (rfY L dns[i])] 90))
    have HCK:=aA (HKT.out.trans (aJ.below ((Below.refl wr.heap.size wr).alloc (Nat.le_refl _) (.cells #[.string (K.str dns[i].t),.complex .f64 (rfX L dns[i]) (rfY L dns[i])] 90))))
    have HCX:=aA ((Below.heap_alloc wr (.cells #[.string (K.str dns[i].t),.complex .f64 (rfX L dns[i]) (rfY L dns[i])] 90) w.heap.size hsz).trans HBX.out)
    have HCR:=aA (heap_alloc_new wr (.cells #[.string (K.str dns[i].t),.complex .f64 (rfX L dns[i]) (rfY L dns[i])] 90))
    have HC:=aA (HNL.out i hlt S' _ HCB.out HV.out (Nat.le_trans hB HCW.out.size))
    have HA:=aA (HAN.out S' dns[i])
    have HD:=aA (zaO (k:=6) (s:=S'.s) hlt)
    have HL:=aA (fun s (h:Gm.decl1 6 S'.s dns[i]=.ok s)=>zbc h HV.out.t (H7.out i hlt) HV.out.s)
    clear hc
    generalize dns[i]=x at *
    cases q:Gm.decl1 6 S'.s x with
    | ok s =>
     have HX:=aA (HE.out.trans (HD.out.trans (by rw[q,Gm.R.bind_ok])))
     have HLL:=aA (HL.out s q)
     have ha:=HA.out
     rw[q]at ha
     have ha:NmA 6 S' x=(0,{S' with s:=s}):=ha
     rw[ha]at HC
     clear ha HA HL q HD
     generalize rfX L x=X at *
     generalize rfY L x=Y at *
     generalize K.str x.t=sx at *
     go_wp2_with fail
     refine HC.out.mono ?_;rintro _ w2 ⟨rfl,hb2,hw2,hk2⟩
     have H2:=aA (And.intro hb2 (And.intro (HCW.out.trans hw2) (And.intro (HCK.out.trans hk2) (hk2 _ _ _ HCX.out (by decide) (by decide)))))
     clear hb2 hw2 hk2
     go_wp2
     go_roundw
     case rel=>exact⟨i+1,{S' with s:=s},hlt,by go_num,HX,aA (fun s'=>HS.out s'),aA ⟨HV.out.n,HLL.out.1,HLL.out.2⟩,aA H2.out.1,H2.out.2.1,aA H2.out.2.2.1,aA H2.out.2.2.2⟩
     case measure=>simp[intOf];omega
    | bad y er =>
     have HX:=aA (HE.out.trans (HD.out.trans (by rw[q,Gm.R.bind_bad])))
     have ha:=HA.out
     rw[q]at ha
     obtain⟨ha1,ha2,ha3⟩:(NmA 6 S' x).1=er∧er≠0∧y=x:=ha
     subst ha3
     rw[ha1]at HC
     have her:(er != 0)=true:=by simpa using ha2
     have HER:=aA ha2
     clear ha1 ha2 HA HL q HD
     generalize (NmA 6 S' y).2=S2 at *
     have HXY:Hid (∀X Y,X=rfX L y→Y=rfY L y→zkM L w B N R S (.bad y er) (.returned (.tuple #[.complex .f64 X Y,.int .i64 er]))):=aA (fun X Y h1 h2=>by subst h1 h2;exact⟨HER.out,rfl⟩)
     obtain⟨X,hX⟩:∃X,X=rfX L y:=⟨_,rfl⟩
     obtain⟨Y,hY⟩:∃Y,Y=rfY L y:=⟨_,rfl⟩
     rw[←hX,←hY]at k1 HC HCB HCW HCK HCX HCR
     have HXX:=aA hX
     have HYY:=aA hY
     clear hX hY
     generalize K.str y.t=sx at *
     go_wp2_with fail
     refine HC.out.mono ?_;rintro _ w2 ⟨rfl,hb2,hw2,hk2⟩
     have H2:=aA (And.intro (HCW.out.trans hw2) (HCK.out.trans hk2))
     have hrr:=hk2 _ _ _ HCR.out (by decide) (by decide)
     have r1:=cell_of_row w2 _ 1 _ _ _ hrr
     have hrz:=(Array.getElem?_eq_some_iff.1 hrr).1
     clear hb2 hw2 hk2 hrr
     go_wp2
     go_ret2
     refine⟨?_,H2.out⟩
     rw[HX.out]
     exact HXY.out _ _ HXX.out HYY.out
   ·obtain rfl:i=dns.length:=by omega
    have HX:=aA (HE.out.trans (zba (Nat.le_refl _)))
    go_wp2
    go_ret2
    refine⟨?_,HBW.out,HKT.out⟩
    rw[HX.out]
    exact⟨rfl,by rw[HS.out S'.s];exact HBL.out,by rw[HS.out S'.s];exact HV.out⟩
 ·have HU:Hid (upS 7 S=S):=aA (by unfold upS Gm.up;rw[if_pos (by decide)])
  have HB2:Hid (Bld L (w.alloc (.cells #[.int .i64 7,.slice A dns.length c] 131)) B N R (upS 7 S)):=aA (by rw[HU.out];exact⟨vT,vN,vR,Ms,Mt,ml,tl,⟨HB1.out.alloc _,HSO.out.1,HSO.out.2⟩⟩)
  have HW2:=aA HW0.out
  have HK2:=aA HK0.out
  have HX2:=aA HBK.out
  clear HW0 HK0 HBK HB1 HSO
  go_enter Tryz.func86,Tryz.ntmps86
  go_wp2
  go_loopw [32] (fun vi wr=>∃(i:Nat) (S':St),i≤dns.length∧vi=.int .i64 i∧Hid (Gm.declN 7 (Gm.up 7 S.s) dns=Gm.declN 7 S'.s (dns.drop i))∧Hid (∀s,({S with s:=s}:St) = {S' with s:=s})∧Hid (Inv1 S')∧Hid (Bld L wr B N R S')∧Below B w wr∧Hid (aJ w wr)∧Hid (wr.heap[w.heap.size]?=some (.cells #[.int .i64 7,.slice A dns.length c] 131 (0,0)))) (fun vi _=>dns.length-(intOf vi).toNat)
  case atStart=>exact⟨0,upS 7 S,Nat.zero_le _,rfl,aA rfl,aA (fun _=>rfl),HIV,HB2,HW2.out,HK2,HX2⟩
  case round =>
   clear c6 f6 HB2 HW2 HK2 HX2
   obtain⟨i,S',hi,rfl,HE,HS,HV,HBL,hbw,HKT,HBX⟩:=hrel
   have HBW:=aA hbw
   have hsz:w.heap.size<wr.heap.size:=(Array.getElem?_eq_some_iff.1 HBX.out).1
   have b0:=cell_of_row wr _ 0 _ _ _ HBX.out
   have b1:=cell_of_row wr _ 1 _ _ _ HBX.out
   clear hbw
   by_cases hlt:i<dns.length
   ·obtain⟨g,o,rfl,hgB,hc⟩:=HR.out (by omega)
    have k0:=(HBW.out.cell (p:=⟨g,o+i*2,none⟩) hgB).trans (hc i hlt).1
    have k1:=(HBW.out.cell (p:=⟨g,o+i*2+1,none⟩) hgB).trans (hc i hlt).2
    have hgs:g<wr.heap.size:=by omega
    have HCB:=aA (HBL.out.alloc (.cells #[.string (K.str dns[i].t),.complex .f64 (rfX L dns[i]) (rfY L dns[i])] 90))
    have HCW:=aA (HBW.out.alloc (Nat.le_trans hB HBW.out.size) (.cells #[.string (K.str dns[i].t),.complex .f64 (rfX L dns[i]) (rfY L dns[i])] 90))
    have HCK:=aA (HKT.out.trans (aJ.below ((Below.refl wr.heap.size wr).alloc (Nat.le_refl _) (.cells #[.string (K.str dns[i].t),.complex .f64 (rfX L dns[i]) (rfY L dns[i])] 90))))
    have HCX:=aA ((Below.heap_alloc wr (.cells #[.string (K.str dns[i].t),.complex .f64 (rfX L dns[i]) (rfY L dns[i])] 90) w.heap.size hsz).trans HBX.out)
    have HCR:=aA (heap_alloc_new wr (.cells #[.string (K.str dns[i].t),.complex .f64 (rfX L dns[i]) (rfY L dns[i])] 90))
    have HC:=aA (HNL.out i hlt S' _ HCB.out HV.out (Nat.le_trans hB HCW.out.size))
    have HA:=aA (HAN.out S' dns[i])
    have HD:=aA (zaO (k:=7) (s:=S'.s) hlt)
    have HL:=aA (fun s (h:Gm.decl1 7 S'.s dns[i]=.ok s)=>zbc h HV.out.t (fun _=>H7.out i hlt trivial) HV.out.s)
    clear hc
    generalize dns[i]=x at *
    cases q:Gm.decl1 7 S'.s x with
    | ok s =>
     have HX:=aA (HE.out.trans (HD.out.trans (by rw[q,Gm.R.bind_ok])))
     have HLL:=aA (HL.out s q)
     have ha:=HA.out
     rw[q]at ha
     have ha:NmA 7 S' x=(0,{S' with s:=s}):=ha
     rw[ha]at HC
     clear ha HA HL q HD
     generalize rfX L x=X at *
     generalize rfY L x=Y at *
     generalize K.str x.t=sx at *
     go_wp2_with fail
     refine HC.out.mono ?_;rintro _ w2 ⟨rfl,hb2,hw2,hk2⟩
     have H2:=aA (And.intro hb2 (And.intro (HCW.out.trans hw2) (And.intro (HCK.out.trans hk2) (hk2 _ _ _ HCX.out (by decide) (by decide)))))
     clear hb2 hw2 hk2
     go_wp2
     go_roundw
     case rel=>exact⟨i+1,{S' with s:=s},hlt,by go_num,HX,aA (fun s'=>HS.out s'),aA ⟨HV.out.n,HLL.out.1,HLL.out.2⟩,aA H2.out.1,H2.out.2.1,aA H2.out.2.2.1,aA H2.out.2.2.2⟩
     case measure=>simp[intOf];omega
    | bad y er =>
     have HX:=aA (HE.out.trans (HD.out.trans (by rw[q,Gm.R.bind_bad])))
     have ha:=HA.out
     rw[q]at ha
     obtain⟨ha1,ha2,ha3⟩:(NmA 7 S' x).1=er∧er≠0∧y=x:=ha
     subst ha3
     rw[ha1]at HC
     have her:(er != 0)=true:=by simpa using ha2
     have HER:=aA ha2
     clear ha1 ha2 HA HL q HD
     generalize (NmA 7 S' y).2=S2 at *
     have HXY:Hid (∀X Y,X=rfX L y→Y=rfY L y→zkM L w B N R S (.bad y er) (.returned (.tuple #[.complex .f64 X Y,.int .i64 er]))):=aA (fun X Y h1 h2=>by subst h1 h2;exact⟨HER.out,rfl⟩)
     obtain⟨X,hX⟩:∃X,X=rfX L y:=⟨_,rfl⟩
     obtain⟨Y,hY⟩:∃Y,Y=rfY L y:=⟨_,rfl⟩
     rw[←hX,←hY]at k1 HC HCB HCW HCK HCX HCR
     have HXX:=aA hX
     have HYY:=aA hY
     clear hX hY
     generalize K.str y.t=sx at *
     go_wp2_with fail
     refine HC.out.mono ?_;rintro _ w2 ⟨rfl,hb2,hw2,hk2⟩
     have H2:=aA (And.intro (HCW.out.trans hw2) (HCK.out.trans hk2))
     have hrr:=hk2 _ _ _ HCR.out (by decide) (by decide)
     have r1:=cell_of_row w2 _ 1 _ _ _ hrr
     have hrz:=(Array.getElem?_eq_some_iff.1 hrr).1
     clear hb2 hw2 hk2 hrr
     go_wp2
     go_ret2
     refine⟨?_,H2.out⟩
     rw[HX.out]
     exact HXY.out _ _ HXX.out HYY.out
   ·obtain rfl:i=dns.length:=by omega
    have HX:=aA (HE.out.trans (zba (Nat.le_refl _)))
    go_wp2
    go_ret2
    refine⟨?_,HBW.out,HKT.out⟩
    rw[HX.out]
    exact⟨rfl,by rw[HS.out S'.s];exact HBL.out,by rw[HS.out S'.s];exact HV.out⟩
theorem zjs {k:Int} {s s':Gm.S1} {x:Tok} (h:Gm.decl1 k s x=.ok s'):s'.lv=s.lv:=by
 unfold Gm.decl1 at h
 split at h
 ·split at h
  ·cases h
  ·injection h with h;subst h;rfl
 ·split at h
  ·split at h
   ·cases h
   ·obtain⟨p,_,h⟩:=Gm.R.bind_eq h
    injection h with h;subst h;rfl
  ·split at h
   ·cases h
   ·obtain⟨p,_,h⟩:=Gm.R.bind_eq h
    injection h with h;subst h;rfl
theorem zdJ {k:Int}:∀(xs:List Tok) {s s':Gm.S1},Gm.declN k s xs=.ok s'→s'.lv=s.lv
 | [],s,s',h=>by rw[Gm.declN]at h;injection h with h;subst h;rfl
 | x::r,s,s',h=>by
  rw[Gm.declN]at h
  obtain⟨s1,h1,h2⟩:=Gm.R.bind_eq h
  rw[zdJ r h2,zjs h1]
theorem zlx (k:Int) (s:Gm.S1):(Gm.up k s).lv=s.lv∨(Gm.up k s).lv=s.lv+1:=by
 unfold Gm.up
 split
 ·exact .inl rfl
 ·exact .inr rfl
theorem zdh {s:Gm.S1} {ds:List Y.Dcl} {i:Nat} (h:i<ds.length):Gm.decls s (ds.drop i)=(Gm.declN ds[i].k (Gm.up ds[i].k s) ds[i].ns).bind fun s=>Gm.decls s (ds.drop (i+1)):=by
 rw[List.drop_eq_getElem_cons h,Gm.decls]
theorem zij {s:Gm.S1} {ds:List Y.Dcl} {i:Nat} (h:ds.length≤i):Gm.decls s (ds.drop i)=.ok s:=by
 rw[List.drop_eq_nil_of_le h,Gm.decls]
def DcOk (d:Y.Dcl):Prop:=(d.k=3∨d.k=4∨d.k=5∨d.k=6∨d.k=7)∧(d.k=7→∀x∈d.ns,T.isName x.t=true)∧(∀x∈d.ns,Gm.named x.t=true∧K.Bytes x.t)∧d.ns.length≤1000000
theorem zfc (L:List Int) (B N R:Nat) (S:St) (ds:List Y.Dcl) (A A2:Option Addr) (c n2 c2:Nat) (w:World) (hb:Bld L w B N R S) (hd:∀d∈ds,DcOk d) (hr:ziE L w B A ds) (hv:Inv1 S) (hl:S.s.lv=0) (hB:B≤w.heap.size) (hlen:ds.length≤1000000) :
  Calls Tryz.prog 56 #[.pointer (some ⟨R,0,none⟩),.agg #[.slice A ds.length c,.slice A2 n2 c2]] w fun e w'=>zkM L w' B N R S (Gm.decls S.s ds) e∧Below B w w'∧aJ w w':=by
 have HR:=aA hr
 have HDC:=aA (fun(i:Nat) (hi:i<ds.length)=>hd _ (List.getElem_mem hi))
 have HB0:=aA (hb.alloc (.cells #[.slice A ds.length c,.slice A2 n2 c2] 60))
 have HW0:=aA (((Below.refl B w).alloc hB (.cells #[.slice A ds.length c,.slice A2 n2 c2] 60)))
 have HK0:=aA (aJ.below ((Below.refl w.heap.size w).alloc (Nat.le_refl _) (.cells #[.slice A ds.length c,.slice A2 n2 c2] 60)))
 have HV0:=aA hv
 have HL0:=aA hl
 clear hr hb hd hv hl
 go_enter Tryz.func56,Tryz.ntmps56
 go_wp2
 go_loopw [13] (fun vi wr=>∃(i:Nat) (S':St),i≤ds.length∧vi=.int .i64 i∧Hid (Gm.decls S.s ds=Gm.decls S'.s (ds.drop i))∧Hid (∀s,({S with s:=s}:St) = {S' with s:=s})∧Hid (Inv1 S')∧(0≤S'.s.lv∧S'.s.lv≤i)∧Hid (Bld L wr B N R S')∧Below B w wr∧Hid (aJ w wr)) (fun vi _=>ds.length-(intOf vi).toNat)
 case atStart=>exact⟨0,S,Nat.zero_le _,rfl,aA rfl,aA (fun _=>rfl),HV0,by rw[HL0.out];omega,HB0,HW0.out,HK0⟩
 case round =>
  obtain⟨i,S',hi,rfl,HE,HS,HV,hlv,HBL,hbw,HKT⟩:=hrel
  have HBW:=aA hbw
  clear hbw
  by_cases hlt:i<ds.length
  ·obtain⟨g,o,rfl,hgB,hc⟩:=HR.out (by omega)
   obtain⟨k0,A',c',k1,hrf⟩:=hc i hlt
   have k0:=(HBW.out.cell (p:=⟨g,o+i*2,none⟩) hgB).trans k0
   have k1:=(HBW.out.cell (p:=⟨g,o+i*2+1,none⟩) hgB).trans k1
   have hBs:=HBW.out.size
   have hgs:g<wr.heap.size:=by omega
   obtain⟨d1,d2,d3,d4⟩:=HDC.out i hlt
   have HCB:=aA (HBL.out.alloc (.cells #[.int .i64 ds[i].k,.slice A' ds[i].ns.length c'] 131))
   have HCW:=aA (HBW.out.alloc (Nat.le_trans hB HBW.out.size) (.cells #[.int .i64 ds[i].k,.slice A' ds[i].ns.length c'] 131))
   have HCK:=aA (HKT.out.trans (aJ.below ((Below.refl wr.heap.size wr).alloc (Nat.le_refl _) (.cells #[.int .i64 ds[i].k,.slice A' ds[i].ns.length c'] 131))))
   have HC:=aA (zhN L B N R S' ds[i] A' c' _ HCB.out d1 d2 d3 (hrf.keep HCW.out) HV.out ⟨hlv.1,by omega⟩ (Nat.le_trans hB HCW.out.size) d4)
   have HD:=aA (zdh (s:=S'.s) hlt)
   have HU:=aA (zlx ds[i].k S'.s)
   have HLV:=aA (fun s' (h:Gm.declN ds[i].k (Gm.up ds[i].k S'.s) ds[i].ns=.ok s')=>zdJ ds[i].ns h)
   clear hc hrf d1 d2 d3 d4
   generalize ds[i]=d at *
   cases q:Gm.declN d.k (Gm.up d.k S'.s) d.ns with
   | ok s =>
    have HX:=aA (HE.out.trans (HD.out.trans (by rw[q,Gm.R.bind_ok])))
    have hls:=HLV.out s q
    have hlu:=HU.out
    have hlz:0≤s.lv∧s.lv≤((i+1:Nat):Int):=by omega
    rw[q]at HC
    have HLZ:=aA hlz
    clear HLV q HD hls hlu hlz
    go_wp2_with fail
    refine HC.out.mono ?_;rintro _ w2 ⟨⟨rfl,hb2,hv2⟩,hw2,hk2⟩
    have H2:=aA (And.intro hb2 (And.intro hv2 (And.intro (HCW.out.trans hw2) (HCK.out.trans hk2))))
    clear hb2 hw2 hk2 hv2
    go_wp2
    go_roundw
    case rel=>exact⟨i+1,{S' with s:=s},hlt,by go_num,HX,aA (fun s'=>HS.out s'),aA H2.out.2.1,HLZ.out,aA H2.out.1,H2.out.2.2.1,aA H2.out.2.2.2⟩
    case measure=>simp[intOf];omega
   | bad y er =>
    have HX:=aA (HE.out.trans (HD.out.trans (by rw[q,Gm.R.bind_bad])))
    rw[q]at HC
    clear HLV q HD
    go_wp2_with fail
    refine HC.out.mono ?_;rintro _ w2 ⟨⟨her0,rfl⟩,hw2,hk2⟩
    have her:(er != 0)=true:=by simpa using her0
    have HER:=aA her0
    have H2:=aA (And.intro (HCW.out.trans hw2) (HCK.out.trans hk2))
    clear hw2 hk2 her0
    go_wp2
    go_ret2
    refine⟨?_,H2.out⟩
    rw[HX.out]
    exact⟨HER.out,rfl⟩
  ·obtain rfl:i=ds.length:=by omega
   have HX:=aA (HE.out.trans (zij (Nat.le_refl _)))
   go_wp2
   go_ret2
   refine⟨?_,HBW.out,HKT.out⟩
   rw[HX.out]
   exact⟨rfl,by rw[HS.out S'.s];exact HBL.out,by rw[HS.out S'.s];exact HV.out⟩
end Go.Proofs.YtkfelkpilaipnaaGreatDoor
namespace Go.CalmN
open Go.RowKit
section
variable {P:Program} {ops:Array Oper} {Q:Exit→Act→World→Prop} {md:Region.Mode}
def plainB:Op→Bool
 | .move _ | .assign _ | .pick .. | .load .. | .convert .. | .binOp .. | .unOp .. | .slice .. | .fieldAddr .. | .field .. | .indexAddr .. | .index .. | .extract .. | .build .. | .nilCheck _ | .lookup ..=>true
 | .call c=>match c.callee with
  | .builtin .len | .builtin .cap=>true
  | _=>false
 | _=>false
theorem value_of {s:Sem Value} {w w':World} {n:Next} (h:((do pure (.value (←s))):Sem Next).run P w=.ok n w'):∃u,n=.value u:=by
 rw[Sem.run_bind]at h
 cases hs:s.run P w with
 | ok v w1=>rw[hs]at h;simp[Result.andThen,Sem.run_pure]at h;exact⟨v,h.1.symm⟩
 | halt x w1=>rw[hs]at h;simp[Result.andThen]at h
theorem zb1 {α:Type} {w w':World} {n:α} (h:(runtimePanic .nilDeref:Sem α).run P w=.ok n w'):False:=by
 simp[runtimePanic,Result.andThen]at h
theorem plain_value {o:Oper} (hp:plainB o.op=true) {a:Act} {w w':World} {n:Next} (h:(execOp a.eval o).run P w=.ok n w'):∃u,n=.value u:=by
 obtain⟨dst,op,type,pos,after,guard⟩:=o
 cases op with
 | call c =>
  obtain⟨callee,args,ats⟩:=c
  cases callee with
  | builtin b =>
   cases b with
   | len=>exact value_of (s:=Builtin.len_ ats type (args.map a.eval)) h
   | cap=>exact value_of (s:=Builtin.cap_ ats type (args.map a.eval)) h
   | _=>exact absurd hp (by simp[plainB])
  | invoke recv name=>exact absurd hp (by simp[plainB])
  | value f=>exact absurd hp (by simp[plainB])
 | move x=>simp[execOp,Sem.run_pure]at h;exact⟨_,h.1.symm⟩
 | assign x=>simp[execOp,Sem.run_pure]at h;exact⟨_,h.1.symm⟩
 | pick c x y =>
  simp only[execOp,Sem.run_bind]at h
  cases hs:(asBool (a.eval c)).run P w with
  | ok v w1=>rw[hs]at h;simp[Result.andThen,Sem.run_pure]at h;exact⟨_,h.1.symm⟩
  | halt x w1=>rw[hs]at h;simp[Result.andThen]at h
 | nilCheck x =>
  simp only[execOp]at h
  split at h
  ·exact(zb1 h).elim
  ·exact(zb1 h).elim
  ·exact(zb1 h).elim
  ·split at h
   ·exact(zb1 h).elim
   ·simp only[Sem.run_bind]at h
    generalize (program:Sem Program).run P w=r1 at h
    cases r1 with
    | halt x w1=>simp[Result.andThen]at h
    | ok pr w1 =>
     simp only[Result.andThen_ok]at h
     revert h
     generalize (nilAhead _ _ _ _).run P w1=r2
     intro h
     cases r2 with
     | halt x w1=>simp[Result.andThen]at h
     | ok b w2 =>
      simp only[Result.andThen_ok]at h
      split at h
      ·simp[Result.andThen]at h
      ·simp[Sem.run_pure]at h;exact⟨_,h.1.symm⟩
   ·simp[Sem.run_pure]at h;exact⟨_,h.1.symm⟩
  ·simp[Sem.run_pure]at h;exact⟨_,h.1.symm⟩
 | _=>first
  | (simp[plainB]at hp;done)
  | exact value_of h
theorem yieldsIf_of {S:World→Prop} {o:Oper} {a:Act} {v:Value} (hp:plainB o.op=true) (hw:Region.wanted o (yielded ops a.tmps)=true) (h:∀w,S w→o.quietAt P a S w v):YieldsIf P ops S o v a:=by
 refine .inl ⟨hw,fun w hS=>?_⟩
 have h1:=h w hS
 unfold Oper.quietAt at h1
 cases hr:(execOp a.eval o).run P w with
 | ok n w' =>
  obtain⟨u,rfl⟩:=plain_value hp hr
  rw[hr]at h1
  simp only[Oper.quietUpon]at h1
  rw[h1.1,h1.2]
 | halt x w'=>rw[hr]at h1;simp[Oper.quietUpon]at h1
def pickOps (ops:Array Oper):List Nat→List Oper
 | []=>[]
 | i::r=>match ops[i]? with
  | some o=>o::pickOps ops r
  | none=>pickOps ops r
def marked:List Nat→Array Bool→Array Bool
 | [],l=>l
 | i::r,l=>marked r (l.setIfInBounds i true)
def stillB (md:Region.Mode) (ops:Array Oper):List Nat→Array Bool→Bool
 | [],_=>true
 | i::r,l=>(match ops[i]? with|some o=>plainB o.op|none=>false)&&Region.free md ops l i&&(Region.ready md ops l).contains i&&stillB md ops r (l.setIfInBounds i true)
theorem anyH_mono {S S':World→Prop} (h:∀x,S' x→S x):∀(fuel:Nat) (listed:Array Bool) (a:Act) (w:World),wpAnyH P md ops Q S' fuel listed a w→wpAnyH P md ops Q S fuel listed a w
 | 0,_,_,_,k=>k
 | fuel+1,_,_,_,k=>⟨k.1,fun i hi=>wpOp_mono (fun a w hk=>⟨h _ hk.1,anyH_mono h fuel _ a w hk.2⟩) (k.2 i hi)⟩
theorem still_block {S:World→Prop} (hs:Region.noSelect ops=true) (hQ:∀c a d v w,Q (.panic c) (a.put d v) w→Q (.panic c) a w) {w:World} (hS:S w) (fuel:Nat) :
  ∀(p:List Nat) (listed:Array Bool) (a:Act),stillB md ops p listed=true →
   wpQuiet P ops S (fun a'=>wpAnyH P md ops Q S fuel (marked p listed) a' w) (pickOps ops p) a→wpAnyH P md ops Q S (p.length+fuel) listed a w
 | [],_,_,_,h=>by rw[List.length_nil,Nat.zero_add];exact h
 | i::r,listed,a,hb,h=>by
  unfold stillB at hb
  cases ho:ops[i]? with
  | none=>rw[ho]at hb;simp at hb
  | some o =>
   rw[ho]at hb
   simp only[Bool.and_eq_true]at hb
   obtain⟨⟨⟨hp,hf⟩,hr⟩,hrest⟩:=hb
   have hl:pickOps ops (i::r)=o::pickOps ops r:=by simp only[pickOps,ho]
   rw[hl]at h
   rw[show(i::r).length+fuel=(r.length+fuel)+1 by rw[List.length_cons];omega]
   unfold wpQuiet at h
   by_cases hw:Region.wanted o (yielded ops a.tmps)=true
   ·rw[if_pos hw]at h
    obtain⟨v,h1,h2⟩:=h
    exact wpAnyH_take ho hs hf hr (fun c a w=>hQ c a o.dst v w) (yieldsIf_of hp hw h1) hS (still_block hs hQ hS fuel r _ _ hrest h2)
   ·rw[if_neg hw]at h
    exact wpAnyH_take ho hs hf hr (fun c a w=>hQ c a o.dst undef w) (.inr ⟨by simpa using hw,rfl⟩) hS (still_block hs hQ hS fuel r _ _ hrest h)
end
section
variable {P:Program} {ops:Array Oper} {Q:Exit→Act→World→Prop} {md:Region.Mode}
inductive Ph where
 | fin (last:List Nat)
 | one (p:List Nat) (k:Nat) (t:Ph)
 | two (p:List Nat) (k:Nat) (t:Ph) (k2:Nat) (t2:Ph)
def wpSt (P:Program) (ops:Array Oper) (Q:Exit→Act→World→Prop) (o:Option Oper) (S:World→Prop) (T:(World→Prop)→Act→World→Prop) (a:Act) (w:World):Prop :=
 match o with
 | none=>True
 | some o=>∀K:Act→World→Prop,(∀a2 w2,S w2→∀S':World→Prop,(∀x,S' x→S x)→S' w2→T S' a2 w2→K a2 w2) →
   if Region.wanted o (yielded ops a.tmps)=true then Oper.wp P o a w K Q else K (a.put o.dst undef) w
def wpT (P:Program) (ops:Array Oper) (Q:Exit→Act→World→Prop):Ph→(World→Prop)→Act→World→Prop
 | .fin last,S,a,w=>wpQuiet P ops S (fun a'=>Q .normal a' w) (pickOps ops last) a
 | .one p k t,S,a,w=>wpQuiet P ops S (fun a'=>wpSt P ops Q ops[k]? S (fun S' a2 w2=>wpT P ops Q t S' a2 w2) a' w) (pickOps ops p) a
 | .two p k t k2 t2,S,a,w=>wpQuiet P ops S (fun a'=>wpSt P ops Q ops[k]? S (fun S' a2 w2=>wpT P ops Q t S' a2 w2) a' w∧wpSt P ops Q ops[k2]? S (fun S' a2 w2=>wpT P ops Q t2 S' a2 w2) a' w) (pickOps ops p) a
def tB (md:Region.Mode) (ops:Array Oper):Ph→Array Bool→Nat→Bool
 | .fin last,l,n=>stillB md ops last l&&(Region.ready md ops (marked last l)).isEmpty&&(last.length==n)
 | .one p k t,l,n=>stillB md ops p l&&(match Region.ready md ops (marked p l) with | [j]=>j==k|_=>false)&&(ops[k]?).isSome&&decide (p.length+1≤n)&&tB md ops t ((marked p l).setIfInBounds k true) (n-(p.length+1))
 | .two p k t k2 t2,l,n=>stillB md ops p l&&(match Region.ready md ops (marked p l) with | [j,j2]=>j==k&&j2==k2|_=>false)&&(ops[k]?).isSome&&(ops[k2]?).isSome&&decide (p.length+1≤n)&&tB md ops t ((marked p l).setIfInBounds k true) (n-(p.length+1))&&tB md ops t2 ((marked p l).setIfInBounds k2 true) (n-(p.length+1))
theorem quiet_mono {S:World→Prop} {Q1 Q2:Act→Prop} (h:∀a,Q1 a→Q2 a):∀ {l:List Oper} {a:Act},wpQuiet P ops S Q1 l a→wpQuiet P ops S Q2 l a
 | [],_,k=>h _ k
 | o::r,a,k=>by
  unfold wpQuiet at k ⊢
  split
  ·rename_i hw;rw[if_pos hw]at k;obtain⟨v,h1,h2⟩:=k;exact⟨v,h1,quiet_mono h h2⟩
  ·rename_i hw;rw[if_neg hw]at k;exact quiet_mono h k
theorem any_of_t (hs:Region.noSelect ops=true) (hQ:∀c a d v w,Q (.panic c) (a.put d v) w→Q (.panic c) a w) :
  ∀(t:Ph) (S:World→Prop) (listed:Array Bool) (a:Act) (w:World) (n:Nat),tB md ops t listed n=true→S w→wpT P ops Q t S a w→wpAnyH P md ops Q S n listed a w
 | .fin last,S,listed,a,w,n,hb,hS,h=>by
  unfold tB at hb
  simp only[Bool.and_eq_true,List.isEmpty_iff,beq_iff_eq]at hb
  obtain⟨⟨h1,h2⟩,rfl⟩:=hb
  have e:last.length=last.length+0:=rfl
  rw[e]
  refine still_block hs hQ hS 0 last listed a h1 ?_
  exact quiet_mono (fun a' hq=>wpAnyH_done h2 hq 0) h
 | .one p k t,S,listed,a,w,n,hb,hS,h=>by
  unfold tB at hb
  simp only[Bool.and_eq_true,decide_eq_true_iff]at hb
  obtain⟨⟨⟨⟨h1,h2⟩,h3⟩,h5⟩,h4⟩:=hb
  obtain⟨o,ho⟩:=Option.isSome_iff_exists.1 h3
  have hrd:Region.ready md ops (marked p listed)=[k]:=by
   split at h2
   ·rename_i j hj;rw[hj];rw[beq_iff_eq]at h2;rw[h2]
   ·cases h2
  obtain⟨m,rfl⟩:∃m,n=p.length+(m+1):=⟨n-(p.length+1),by omega⟩
  rw[show p.length+(m+1)-(p.length+1)=m by omega]at h4
  refine still_block hs hQ hS _ p listed a h1 ?_
  unfold wpT at h
  refine quiet_mono (fun a' hq=>?_) h
  refine wpAnyH_all hrd (by simp) fun i hi=>?_
  rw[List.mem_singleton]at hi
  subst hi
  refine wpOp_step ho fun K' hK=>?_
  rw[ho]at hq
  refine hq K' fun a2 w2 h6 S' hS' hS2 h7=>hK _ _ ⟨h6,?_⟩
  exact anyH_mono hS' _ _ _ _ (any_of_t hs hQ t S' _ a2 w2 _ h4 hS2 h7)
 | .two p k t k2 t2,S,listed,a,w,n,hb,hS,h=>by
  unfold tB at hb
  simp only[Bool.and_eq_true,decide_eq_true_iff]at hb
  obtain⟨⟨⟨⟨⟨⟨h1,h2⟩,h3⟩,h32⟩,h5⟩,h4⟩,h42⟩:=hb
  obtain⟨o,ho⟩:=Option.isSome_iff_exists.1 h3
  obtain⟨o2,ho2⟩:=Option.isSome_iff_exists.1 h32
  have hrd:Region.ready md ops (marked p listed)=[k,k2]:=by
   split at h2
   ·rename_i j j2 hj;rw[hj];simp only[Bool.and_eq_true,beq_iff_eq]at h2;rw[h2.1,h2.2]
   ·cases h2
  obtain⟨m,rfl⟩:∃m,n=p.length+(m+1):=⟨n-(p.length+1),by omega⟩
  rw[show p.length+(m+1)-(p.length+1)=m by omega]at h4 h42
  refine still_block hs hQ hS _ p listed a h1 ?_
  unfold wpT at h
  refine quiet_mono (fun a' hq=>?_) h
  refine wpAnyH_all hrd (by simp) fun i hi=>?_
  rw[ho,ho2]at hq
  rcases List.mem_cons.1 hi with rfl|hi
  ·refine wpOp_step ho fun K' hK=>?_
   refine hq.1 K' fun a2 w2 h6 S' hS' hS2 h7=>hK _ _ ⟨h6,?_⟩
   exact anyH_mono hS' _ _ _ _ (any_of_t hs hQ t S' _ a2 w2 _ h4 hS2 h7)
  ·rw[List.mem_singleton]at hi
   subst hi
   refine wpOp_step ho2 fun K' hK=>?_
   refine hq.2 K' fun a2 w2 h6 S' hS' hS2 h7=>hK _ _ ⟨h6,?_⟩
   exact anyH_mono hS' _ _ _ _ (any_of_t hs hQ t2 S' _ a2 w2 _ h42 hS2 h7)
theorem region_tree {id:Nat} {a:Act} {w:World} {l:List Oper} (S:World→Prop) (t:Ph) (hm:P.follows .mixedOrders=true)
  (hB:(Region.noSelect l.toArray&&tB .any l.toArray t (Array.replicate l.toArray.size false) l.toArray.size)=true)
  (hQ:∀c a d v w,Q (.panic c) (a.put d v) w→Q (.panic c) a w) (hS:S w.drew)
  (h:wpT P l.toArray Q t S a w.drew):(Code.region id l.toArray true).wp P Q a w:=by
 simp only[Bool.and_eq_true]at hB
 refine wp_region_held (S:=S) hm ?_
 exact any_of_t hB.1 hQ t S _ a w.drew _ hB.2 hS h
end
end Go.CalmN
namespace Go.Proofs.YtkfelkpilaipnaaGreatDoor
set_option maxRecDepth 100000
set_option maxHeartbeats 40000000
open Go.RowKit
theorem ziF {P:Program} {w:World} {o:Oper} {a:Act} {Q:Exit→Act→World→Prop} {K:Act→World→Prop}
  (m x v:Operand) (t:TypeId) (hop:o.op=Op.mapUpdate t m x v) {mv xv vv:Value} {R:World→Prop} (h:∃w',(Instr.mapUpdate t mv xv vv).run P w=.ok () w'∧R w') (hm:a.eval m=mv) (hx:a.eval x=xv) (hv:a.eval v=vv)
  (hK:∀w',R w'→K (a.put o.dst undef) w'):Oper.wp P o a w K Q:=by
 obtain⟨w',hrun,hR⟩:=h
 unfold Oper.wp
 simp[execOp,hop,hm,hx,hv,hrun,Result.andThen]
 exact hK w' hR
def AnsL (L:List Int) (w':World) (B N R:Nat) (S:St) (x:Tok) (r:Gm.R (List (List Int))) (e:Ending):Prop:=match r with
 | .ok ns=>e=.returned (.int .i64 0)∧Bld L w' B N R {S with ns:=ns}
 | .bad y er=>er≠0∧y=x∧e=.returned (.int .i64 er)
theorem zjh (L:List Int) (B N R:Nat) (S:St) (x:Tok) (w:World) (hb:Bld L w B N R S) (hs:K.Tx x.t) (hnm:T.isName x.t=true) (hB:B≤w.heap.size) (hlt:S.ns.length≤16) :
  Calls Tryz.prog 87 #[.pointer (some ⟨R,0,none⟩),.string (K.str x.t)] w fun e w'=>AnsL L w' B N R S x (Gm.left1 S.s.ts S.ns x) e∧Below B w w'∧aP w w':=by
 have HNA:=aA (fun y=>zbw x.t hs.1 y)
 rw[hnm]at HNA
 have HBL:=aA hb
 have HLK:=aA (fun(y:World) (h:Below w.heap.size w y)=>(by
  obtain⟨vT,vN,vR,Ms,Mt,ml,tl,h⟩:=hb.below h
  exact⟨vT,vN,vR,Ms,Mt,ml,tl,h,zdB h.w.ms h.so x.t hs,h.w.at 4⟩:∃vT vN vR Ms Mt ml tl,BldAt L y B N R S vT vN vR Ms Mt ml tl∧(Instr.lookup 87 (.map (some Ms)) (.string (K.str x.t)) true).run Tryz.prog y=.ok (.tuple #[(bL S.s.ts S.ns x.t).getD (.int .i64 0),.bool (bL S.s.ts S.ns x.t).isSome]) y∧y.cell? ⟨R,4,none⟩=some (.map (some Ms))∧y.frozen? ⟨R,4,none⟩=false∧R<y.heap.size))
 have HTX:=aA hs
 have HLT:=aA hlt
 clear hb hs hnm hlt
 unfold Gm.left1
 by_cases h1:0≤Gm.find (Gm.names S.s.ts) x.t
 ·have he:bL S.s.ts S.ns x.t=some (.int .i64 (Gm.find (Gm.names S.s.ts) x.t)):=by unfold bL;rw[if_pos h1]
  rw[he]at HLK
  simp only[Option.getD_some,Option.isSome_some]at HLK
  have HIT:=aA (fun y=>zag (Gm.find (Gm.names S.s.ts) x.t) y)
  rw[decide_eq_true h1]at HIT
  simp only[if_pos h1]
  clear h1 he
  generalize Gm.find (Gm.names S.s.ts) x.t=z at *
  go_enter Tryz.func87,Tryz.ntmps87
  go_wp2_with fail
  refine(HNA.out _).mono ?_;rintro _ w2 ⟨rfl,hb2⟩
  have HB2:=aA hb2
  obtain⟨vT,vN,vR,Ms,Mt,ml,tl,h,hlk,c4,_,hRs⟩:=HLK.out _ hb2
  clear h hb2
  go_wp2_with fail
  refine(HIT.out _).mono ?_;rintro _ w5 ⟨rfl,hw5⟩
  subst hw5
  go_wp2
  go_ret
  exact⟨⟨by decide,rfl,rfl⟩,HB2.out.mono hB,aP.below HB2.out⟩
 by_cases h2:0≤Gm.find S.ns x.t
 ·have he:bL S.s.ts S.ns x.t=some (.int .i64 (-1-Gm.find S.ns x.t)):=by unfold bL;rw[if_neg h1,if_pos h2]
  rw[he]at HLK
  simp only[Option.getD_some,Option.isSome_some]at HLK
  have HIT:=aA (fun y=>zag (-1-Gm.find S.ns x.t) y)
  rw[decide_eq_false (by omega)]at HIT
  simp only[if_neg h1,if_pos h2]
  clear h1 h2 he
  generalize -1-Gm.find S.ns x.t=z at *
  go_enter Tryz.func87,Tryz.ntmps87
  go_wp2_with fail
  refine(HNA.out _).mono ?_;rintro _ w2 ⟨rfl,hb2⟩
  have HB2:=aA hb2
  obtain⟨vT,vN,vR,Ms,Mt,ml,tl,h,hlk,c4,_,hRs⟩:=HLK.out _ hb2
  clear h hb2
  go_wp2_with fail
  refine(HIT.out _).mono ?_;rintro _ w5 ⟨rfl,hw5⟩
  subst hw5
  go_wp2
  go_ret
  exact⟨⟨rfl,HBL.out.below HB2.out⟩,HB2.out.mono hB,aP.below HB2.out⟩
 have he:bL S.s.ts S.ns x.t=none:=za3 (by omega) (by omega)
 rw[he]at HLK
 simp only[Option.getD_none,Option.isSome_none]at HLK
 simp only[if_neg h1,if_neg h2]
 by_cases h3:S.ns.length=16
 ·simp only[if_pos h3]
  have e3:((S.ns.length:Int)==16)=true:=beq_iff_eq.2 (by omega)
  clear h1 h2 h3 he
  go_enter Tryz.func87,Tryz.ntmps87
  go_wp2_with fail
  refine(HNA.out _).mono ?_;rintro _ w2 ⟨rfl,hb2⟩
  have HB2:=aA hb2
  obtain⟨vT,vN,vR,Ms,Mt,ml,tl,h,hlk,c4,_,hRs⟩:=HLK.out _ hb2
  obtain⟨AN,cN,rfl,_,_⟩:=aU h.w.n
  have c1:w2.cell? ⟨R,1,none⟩=some (.slice AN S.ns.length cN):=cell_of_row w2 R 1 _ _ _ h.w.b
  clear h hb2
  go_wp2
  go_ret
  exact⟨⟨by decide,rfl,rfl⟩,HB2.out.mono hB,aP.below HB2.out⟩
 simp only[if_neg h3]
 have e3:((S.ns.length:Int)==16)=false:=beq_eq_false_iff_ne.2 (by omega)
 have HSO:=aA (fun ml (h:zby ml S.s.ts S.ns)=>h.non (s:=x.t) (by omega) (by omega))
 have HNO:=aA (fun ml (h:zby ml S.s.ts S.ns)=>((h x.t).trans he:Mw.asc ml x.t=none))
 have hlen:(S.ns.length:Int)≤16:=by have:=HLT.out;omega
 have HNN:=aA (fun y=>zbF (S.ns.length:Int) (by omega) (by omega) y)
 clear h1 h2 h3 he
 go_enter Tryz.func87,Tryz.ntmps87
 go_wp2_with fail
 refine(HNA.out _).mono ?_;rintro _ w2 ⟨rfl,hb2⟩
 have HB2:=aA hb2
 obtain⟨vT,vN,vR,Ms,Mt,ml,tl,h,hlk,c4,_,hRs⟩:=HLK.out _ hb2
 obtain⟨AN,cN,rfl,_,_⟩:=aU h.w.n
 have HH:=aA h
 have c1:w2.cell? ⟨R,1,none⟩=some (.slice AN S.ns.length cN):=cell_of_row w2 R 1 _ _ _ h.w.b
 have HST:=aA (Mw.run_store (x:=x.t) (h.w.ms.block (w':=w2.drew) rfl) zgU Tryz.underlying87 HTX.out (.int .i64 (-1-(S.ns.length:Int))) (.inl (HNO.out _ h.so)))
 rw[if_pos (HNO.out _ h.so)]at HST
 have hMs:=h.w.hs
 have hne:Ms≠R:=fun e=>by have hb:=h.w.b;rw[←e]at hb;exact h.w.ms.not_cells hb
 clear h hb2
 go_wp2_with fail
 have C1:∀y:Calm.OnB R w2,y.1.cell? ⟨R,1,none⟩=some (.slice AN S.ns.length cN):=fun y=>cell_of_row y.1 R 1 _ _ _ (y.2.trans HH.out.w.b)
 have C4:∀y:Calm.OnB R w2,y.1.cell? ⟨R,4,none⟩=some (.map (some Ms)):=fun y=>cell_of_row y.1 R 4 _ _ _ (y.2.trans HH.out.w.b)
 refine CalmN.region_tree (fun x=>∃y:Calm.OnB R w2,x=y.1) (.one [0,1,2,3,4,5,6,7,8,9,10] 11 (.one [] 12 (.fin []))) (by kernel_rfl) (by kernel_rfl) (fun _ _ d _ _ h=>by cases d <;> exact h) ⟨⟨w2.drew,rfl⟩,rfl⟩ ?_
 clear c1 c4 hlk
 simp only[CalmN.wpT,CalmN.wpSt,CalmN.pickOps,List.getElem?_toArray,List.getElem?_cons_zero,List.getElem?_cons_succ]
 repeat (go_big_quiet_step (fail))
 refine wpQuiet_nil ?_
 clear C1 C4
 intro KK hKK
 rw[if_pos (by rfl)]
 go_wp2_with fail
 refine(HNN.out _).mono ?_;rintro _ w5 ⟨rfl,hw5⟩
 subst hw5
 go_wp2_with fail
 refine hKK _ _ ⟨⟨w2.drew,rfl⟩,rfl⟩ (fun x=>∃y:Calm.OnB R w2,x=y.1) (fun _ h=>h) ⟨⟨w2.drew,rfl⟩,rfl⟩ ?_
 refine wpQuiet_nil ?_
 intro KK hKK
 rw[if_pos (by rfl)]
 refine ziF _ _ _ _ rfl HST.out rfl rfl rfl ?_;rintro w3 ⟨hm3,hg3⟩
 have hR3:w3.heap[R]?=w2.heap[R]?:=hg3.block R hRs (fun e=>by injection e with e;exact hne e.symm)
 have HG3:Hid (w2.grownBy w3 (some Ms)):=aA ⟨hg3.os,hg3.tape,hg3.output,hg3.size,fun k h1 h2=>hg3.block k h1 h2⟩
 have H3:=aA (HH.out.w.ms_put hm3 HG3.out)
 have HR3:=aA hR3
 clear hm3 hg3 hR3
 refine hKK _ _ ⟨⟨w3,HR3.out⟩,rfl⟩ (fun x=>∃y:Calm.OnB R w2,x=y.1) (fun _ h=>h) ⟨⟨w3,HR3.out⟩,rfl⟩ ?_
 refine wpQuiet_nil ?_
 clear hKK
 have c1:w3.cell? ⟨R,1,none⟩=some (.slice AN S.ns.length cN):=(H3.out.at 1).1
 have hR3s:=(H3.out.at 1).2.2
 have hBw:B≤w3.heap.size:=Nat.le_trans hB (Nat.le_trans HB2.out.size HG3.out.size)
 go_wp2_with (refine zdO rfl (.tmp 46) (.tmp 48) _ rfl Tryz.underlying23 B _ S.ns rfl (H3.out.alloc _).n _ _ x.t rfl ((aH _ [.string (K.str x.t)] _ 0)) (by have:=HLT.out;omega) (by simp;omega) ?_;intro v4 w4 ho4 hg4;obtain⟨A4,n4,c4,rfl⟩:=zab ho4;obtain⟨hk4,hf4,hs4⟩:=(((H3.out.alloc _).n_put ho4 hg4).at 1))
 go_ret
 have a0:=H3.out.alloc (.cells #[.string (K.str x.t)] 9)
 have a1:=a0.n_put ho4 hg4
 have a2:=a1.set 1 (.slice A4 n4 c4)
 have hb1:Below B w w3:=(HB2.out.mono hB).trans (zcF HG3.out (fun k e=>by injection e with e;omega) (Nat.le_trans hB HB2.out.size))
 have hb4:Below B w w4:=(hb1.alloc hBw (.cells #[.string (K.str x.t)] 9)).grown hg4 (by simp;omega) (fun k e=>(aF a0.n e).1)
 refine⟨⟨rfl,vT,.slice A4 n4 c4,vR,Ms,Mt,_,tl,⟨a2,HSO.out _ HH.out.so,HH.out.ko⟩⟩,hb4.setCell a1.hR _,?_⟩
 exact(((aP.below HB2.out).trans (aJ.map HG3.out HH.out.w.ms).a).trans (aP.below ((Below.refl _ _).alloc (Nat.le_refl _) _))).trans ((aP.own a0.n hg4 (.inr (.inl rfl))).trans (aP.cells (aD (World.grownBy.refl _ _) 1 _) a1.b (.inl rfl)))
def zgW (L:List Int) (w:World) (B:Nat) (A:Option Addr) (ps:List Y.Prd):Prop :=
 ps.length≠0→∃g o,A=some ⟨g,o,none⟩∧g<B∧∀i (h:i<ps.length),w.cell? ⟨g,o+i*5,none⟩=some (.string (K.str ps[i].l.t))∧w.cell? ⟨g,o+i*5+1,none⟩=some (.complex .f64 (rfX L ps[i].l) (rfY L ps[i].l))∧(∃A' c',w.cell? ⟨g,o+i*5+2,none⟩=some (.slice A' ps[i].r.length c')∧zjF L w B A' ps[i].r)∧w.cell? ⟨g,o+i*5+3,none⟩=some (.string (soS ps[i].p))∧w.cell? ⟨g,o+i*5+4,none⟩=some (.complex .f64 (soX L ps[i].p) (soY L ps[i].p))
theorem zgW.keep {L:List Int} {w w':World} {B:Nat} {A:Option Addr} {xs:List Y.Prd} (h:zgW L w B A xs) (hb:Below B w w'):zgW L w' B A xs:=fun hn=>by
 obtain⟨g,o,e,hg,hc⟩:=h hn
 refine⟨g,o,e,hg,fun i hi=>?_⟩
 obtain⟨h1,h2,⟨A',c',h3,h4⟩,h5,h6⟩:=hc i hi
 exact⟨(hb.cell (p:=⟨g,o+i*5,none⟩) hg).trans h1,(hb.cell (p:=⟨g,o+i*5+1,none⟩) hg).trans h2,⟨A',c',(hb.cell (p:=⟨g,o+i*5+2,none⟩) hg).trans h3,h4.keep hb⟩,(hb.cell (p:=⟨g,o+i*5+3,none⟩) hg).trans h5,(hb.cell (p:=⟨g,o+i*5+4,none⟩) hg).trans h6⟩
def zln (p:Y.Prd):Prop:=(T.isName p.l.t=true∧K.Bytes p.l.t)∧(∀x∈p.r,Gm.named x.t=true∧K.Bytes x.t)∧(∀x,p.p=some x→Gm.named x.t=true∧K.Bytes x.t)∧p.r.length≤1000000
theorem zet {ts:List Gm.Tm} {ns ns':List (List Int)} {x:Tok} (h:Gm.left1 ts ns x=.ok ns') (hl:ns.length≤16):ns'.length≤16:=by
 rcases Gm.left1_ok h with⟨rfl,_⟩|⟨rfl,_,_,h4⟩
 ·exact hl
 ·rw[List.length_append,List.length_singleton];omega
theorem zda {ts:List Gm.Tm} {ns:List (List Int)} {ps:List Y.Prd} {i:Nat} (h:i<ps.length):Gm.lefts ts ns (ps.drop i)=(Gm.left1 ts ns ps[i].l).bind fun ns=>Gm.lefts ts ns (ps.drop (i+1)):=by
 rw[List.drop_eq_getElem_cons h,Gm.lefts]
theorem zes {ts:List Gm.Tm} {ns:List (List Int)} {ps:List Y.Prd} {i:Nat} (h:ps.length≤i):Gm.lefts ts ns (ps.drop i)=.ok ns:=by
 rw[List.drop_eq_nil_of_le h,Gm.lefts]
def AnsG (L:List Int) (w':World) (B N R:Nat) (S:St) (r:Gm.R (List (List Int))) (e:Ending):Prop:=match r with
 | .ok ns=>e=.returned (.tuple #[.complex .f64 0 0,.int .i64 0])∧Bld L w' B N R {S with ns:=ns}∧ns.length≤16
 | .bad y er=>er≠0∧e=.returned (.tuple #[.complex .f64 (rfX L y) (rfY L y),.int .i64 er])
def aY (L:List Int) (p:Y.Prd) (A:Option Addr) (c:Nat):Array Value:=#[.string (K.str p.l.t),.complex .f64 (rfX L p.l) (rfY L p.l),.slice A p.r.length c,.string (soS p.p),.complex .f64 (soX L p.p) (soY L p.p)]
theorem zji (L:List Int) (B N R:Nat) (S:St) (ps:List Y.Prd) (A A2:Option Addr) (c n2 c2:Nat) (w:World) (hb:Bld L w B N R S) (hd:∀d∈ps,zln d) (hr:zgW L w B A ps) (hl:S.ns.length≤16) (hB:B≤w.heap.size) (hlen:ps.length≤1000000) :
  Calls Tryz.prog 57 #[.pointer (some ⟨R,0,none⟩),.agg #[.slice A2 n2 c2,.slice A ps.length c]] w fun e w'=>AnsG L w' B N R S (Gm.lefts S.s.ts S.ns ps) e∧Below B w w'∧aP w w':=by
 have SC:=fun a w m X Y=>show(store a (.complex .f64 X Y) m).run Tryz.prog w=stored Tryz.prog w a (.complex .f64 X Y) m from run_store _ w a _ m rfl
 have HR:=aA hr
 have HDC:=aA (fun(i:Nat) (hi:i<ps.length)=>hd _ (List.getElem_mem hi))
 have HB0:=aA (hb.alloc (.cells #[.slice A2 n2 c2,.slice A ps.length c] 60))
 have HW0:=aA (((Below.refl B w).alloc hB (.cells #[.slice A2 n2 c2,.slice A ps.length c] 60)))
 have HK0:=aA (aP.below ((Below.refl w.heap.size w).alloc (Nat.le_refl _) (.cells #[.slice A2 n2 c2,.slice A ps.length c] 60)))
 have HL0:=aA hl
 clear hr hb hd hl
 go_enter Tryz.func57,Tryz.ntmps57
 go_wp2
 go_loopw [12] (fun vi wr=>∃(i:Nat) (ns:List (List Int)),i≤ps.length∧vi=.int .i64 i∧Hid (Gm.lefts S.s.ts S.ns ps=Gm.lefts S.s.ts ns (ps.drop i))∧Hid (ns.length≤16)∧Hid (Bld L wr B N R {S with ns:=ns})∧Below B w wr∧Hid (aP w wr)) (fun vi _=>ps.length-(intOf vi).toNat)
 case atStart=>exact⟨0,S.ns,Nat.zero_le _,rfl,aA rfl,HL0,HB0,HW0.out,HK0⟩
 case round =>
  obtain⟨i,ns,hi,rfl,HE,HL,HBL,hbw,HKT⟩:=hrel
  have HBW:=aA hbw
  clear hbw
  by_cases hlt:i<ps.length
  ·obtain⟨g,o,rfl,hgB,hc⟩:=HR.out (by omega)
   obtain⟨k0,k1,⟨A',c',k2,_⟩,k3,k4⟩:=hc i hlt
   have k0:=(HBW.out.cell (p:=⟨g,o+i*5,none⟩) hgB).trans k0
   have k1:=(HBW.out.cell (p:=⟨g,o+i*5+1,none⟩) hgB).trans k1
   have k2:=(HBW.out.cell (p:=⟨g,o+i*5+2,none⟩) hgB).trans k2
   have k3:=(HBW.out.cell (p:=⟨g,o+i*5+3,none⟩) hgB).trans k3
   have k4:=(HBW.out.cell (p:=⟨g,o+i*5+4,none⟩) hgB).trans k4
   have hBs:=HBW.out.size
   have hgs:g<wr.heap.size:=by omega
   obtain⟨d1,_⟩:=HDC.out i hlt
   have HCB:=aA (HBL.out.alloc (.cells (aY L ps[i] A' c') 104))
   have HCW:=aA (HBW.out.alloc (Nat.le_trans hB HBW.out.size) (.cells (aY L ps[i] A' c') 104))
   have HCK:=aA (HKT.out.trans (aP.below ((Below.refl wr.heap.size wr).alloc (Nat.le_refl _) (.cells (aY L ps[i] A' c') 104))))
   have HCR:=aA (heap_alloc_new wr (.cells (aY L ps[i] A' c') 104))
   have HC:=aA (zjh L B N R {S with ns:=ns} ps[i].l _ HCB.out (Gm.tx_named ⟨by unfold Gm.named;rw[d1.1];rfl,d1.2⟩) d1.1 (Nat.le_trans hB HCW.out.size) HL.out)
   have HD:=aA (zda (ts:=S.s.ts) (ns:=ns) hlt)
   have HLN:=aA (fun ns' (h:Gm.left1 S.s.ts ns ps[i].l=.ok ns')=>zet h HL.out)
   unfold aY at HCB HCW HCK HCR HC
   clear hc d1
   generalize ps[i]=p at *
   simp only at HC
   cases q:Gm.left1 S.s.ts ns p.l with
   | ok ns' =>
    have HX:=aA (HE.out.trans (HD.out.trans (by rw[q,Gm.R.bind_ok])))
    have HLZ:=aA (HLN.out ns' q)
    rw[q]at HC
    clear HLN q HD
    generalize soS p.p=s3 at *
    generalize soX L p.p=x4 at *
    generalize soY L p.p=y4 at *
    generalize rfX L p.l=X at *
    generalize rfY L p.l=Y at *
    generalize K.str p.l.t=sx at *
    generalize p.r.length=rl at *
    go_wp2_with fail
    refine HC.out.mono ?_;rintro _ w2 ⟨⟨rfl,hb2⟩,hw2,hk2⟩
    have H2:=aA (And.intro hb2 (And.intro (HCW.out.trans hw2) (HCK.out.trans hk2)))
    clear hb2 hw2 hk2
    go_wp2
    go_roundw
    case rel=>exact⟨i+1,ns',hlt,by go_num,HX,HLZ,aA H2.out.1,H2.out.2.1,aA H2.out.2.2⟩
    case measure=>simp[intOf];omega
   | bad y er =>
    have HX:=aA (HE.out.trans (HD.out.trans (by rw[q,Gm.R.bind_bad])))
    rw[q]at HC
    clear HLN q HD
    have HXY:Hid (∀X Y,y=p.l→er≠0→X=rfX L p.l→Y=rfY L p.l→AnsG L w B N R S (.bad y er) (.returned (.tuple #[.complex .f64 X Y,.int .i64 er]))):=aA (fun X Y h h0 h1 h2=>by subst h h1 h2;exact⟨h0,rfl⟩)
    obtain⟨X,hX⟩:∃X,X=rfX L p.l:=⟨_,rfl⟩
    obtain⟨Y,hY⟩:∃Y,Y=rfY L p.l:=⟨_,rfl⟩
    rw[←hX,←hY]at k1 HC HCB HCW HCK HCR
    have HXX:=aA hX
    have HYY:=aA hY
    clear hX hY
    generalize soS p.p=s3 at *
    generalize soX L p.p=x4 at *
    generalize soY L p.p=y4 at *
    generalize K.str p.l.t=sx at *
    generalize p.r.length=rl at *
    go_wp2_with fail
    refine HC.out.mono ?_;rintro _ w2 ⟨⟨her0,hyp,rfl⟩,hw2,hk2⟩
    have her:(er != 0)=true:=by simpa using her0
    have HER:=aA her0
    have HYP:=aA hyp
    have H2:=aA (And.intro (HCW.out.trans hw2) (HCK.out.trans hk2))
    have hrr:=hk2 _ _ _ HCR.out (by decide) (by decide) (by decide) (by decide)
    have r1:=cell_of_row w2 _ 1 _ _ _ hrr
    have hrz:=(Array.getElem?_eq_some_iff.1 hrr).1
    clear hw2 hk2 her0 hyp hrr
    go_wp2
    go_ret2
    refine⟨?_,H2.out⟩
    rw[HX.out]
    exact HXY.out _ _ HYP.out HER.out HXX.out HYY.out
  ·obtain rfl:i=ps.length:=by omega
   have HX:=aA (HE.out.trans (zes (Nat.le_refl _)))
   go_wp2
   go_ret2
   refine⟨?_,HBW.out,HKT.out⟩
   rw[HX.out]
   exact⟨rfl,HBL.out,HL.out⟩
theorem zal {w:World} {o:Oper} {a:Act} {Q:Exit→Act→World→Prop} {K:Act→World→Prop}
  (s x:Operand) (t:TypeId) (ho:o.op=.call {callee:=.builtin .append,args:=#[s,x],argTypes:=#[t,t]}) (ht:Tryz.prog.underlying t=some (.slice 45))
  (base N:Nat) (v:Value) (rs:List Gm.Rl) (hs:a.eval s=v) (hown:bF w base N v rs) (g c:Nat) (q:RA) (hx:a.eval x=.slice (some ⟨g,0,none⟩) 1 c) (hz:∀j u,(rlC q)[j]?=some u→w.cell? ⟨g,j,none⟩=some u) (hr:q.1.r.length≤q.2.2∧q.2.2≤9223372036854775807∧bP w base w.heap.size q.2.1 q.1.r)
  (hlen:rs.length≤1000000) (hbase:base≤w.heap.size) (hN:N≤w.heap.size)
  (hK:∀v' w',bF w' base w'.heap.size v' (rs++[q.1])→w.grownBy w' v.ownBlock→K (a.put o.dst v') w') :
  o.wp Tryz.prog a w K Q:=by
 obtain⟨i,hi,hz0,hz1,hz2⟩:=info_parts zjR
 obtain⟨qs,hq1,hq2,hq3,hq4⟩:=hown
 have hlq:qs.length=rs.length:=by rw[←hq1,List.length_map]
 refine wp_append_own w s x t ho base 45 i _ 3 40 ht hi hz0 hz1 hz2 rfl (by decide) v rs.length (zkN qs) hs hq2 ⟨g,0,none⟩ 1 c (rlC q) hx rfl ?_ ?_ (by unfold maxLen;omega) (by omega) hbase fun v' w' h1 h2 _=>hK v' w' ?_ h2
 ·intro j u hj
  rw[zdP,Nat.zero_add]
  exact hz j u hj
 ·intro u hu;simp[rlC]at hu;rcases hu with rfl|rfl|rfl <;> rfl
 ·have hng:∀g',v.ownBlock=some g'→(∀cur,w.heap[g']? ≠ some (.cells cur 3 (0,0)))∨w.heap.size≤g':=fun g' e=>by
   obtain⟨_,cur,hc⟩:=aF hq2 e
   exact .inl (aR hc (by decide))
  refine⟨qs++[q],by rw[List.map_append,hq1];rfl,?_,fun k hk=>?_,fun p hp=>?_⟩
  ·rw[List.length_append]
   unfold zkN
   rw[List.flatMap_append,List.flatMap_singleton]
   exact h1
  ·obtain⟨_,cur,hc⟩:=aF h1 hk
   exact(Array.getElem?_eq_some_iff.1 hc).1
  ·rcases List.mem_append.1 hp with h|h
   ·obtain⟨a1,a2,a3⟩:=hq4 p h
    exact⟨a1,a2,((a3.more hN).grown h2 hng).more h2.size⟩
   ·rw[List.mem_singleton]at h
    subst h
    exact⟨hr.1,hr.2.1,(hr.2.2.grown h2 hng).more h2.size⟩
theorem aJ.beyond {w wr w':World} {row:Option Nat} (h:aJ w wr) (hg:wr.grownBy w' row) (hr:∀k,row=some k→w.heap.size≤k):aJ w w':=fun g cs T h1 h2 h3=>by
 have hk:=h g cs T h1 h2 h3
 refine(hg.block g (Array.getElem?_eq_some_iff.1 hk).1 (fun e=>?_)).trans hk
 have:=hr g e.symm
 have:=(Array.getElem?_eq_some_iff.1 h1).1
 omega
theorem bE.keepT {w w':World} {base:Nat} {v:Value} {xs:List Int} (h:bE w base v xs) (hk:aJ w w'):bE w' base v xs:=by
 refine⟨h.1,?_⟩
 rcases h.2 with h0|⟨g,cap,cur,e,hb,hg,hr⟩
 ·exact .inl h0
 ·exact .inr ⟨g,cap,cur,e,hb,hk g cur _ hg (by decide) (by decide),hr⟩
theorem bE.row {w:World} {base B:Nat} {v:Value} {xs:List Int} (h:bE w base v xs) (hB:B≤base):∃A c,v=.slice A xs.length c∧xs.length≤c∧c≤9223372036854775807∧bP w B w.heap.size A xs:=by
 rcases h.2 with⟨rfl,h0⟩|⟨g,cap,cur,rfl,hb,hg,hn,hm,hs,ht⟩
 ·exact⟨none,0,by rw[h0],by omega,by omega,fun hc=>absurd h0 hc⟩
 ·refine⟨some ⟨g,0,none⟩,cap,rfl,hn,by unfold maxLen at hm;omega,fun _=>⟨g,cur,rfl,by omega,(Array.getElem?_eq_some_iff.1 hg).1,hg,fun j hj=>?_⟩⟩
  have hq:(cur.toList.take (xs.length*1))[j]?=(xs.map (Value.int .i64))[j]?:=by rw[ht]
  rw[List.getElem?_take_of_lt (by omega),List.getElem?_map,List.getElem?_eq_getElem hj]at hq
  simpa using hq
theorem bE.off {w:World} {N:Nat} {v:Value} {xs:List Int} (h:bE w N v xs):Off w N v.ownBlock:=⟨fun g e=>by
 obtain⟨hb,cur,hc⟩:=aF h e
 exact⟨cur,_,hc,by decide,by decide,by decide,.inr hb⟩⟩
theorem zeQ {S:St} {x:Tok} (hN:Gm.Nin S.s.ts S.ns):(∀ts' z,Gm.symR S.ns S.s.ts x=.ok (ts',z)→SyA S x.t=(z,0,{S with s:={S.s with ts:=ts' } }))∧(∀y e,Gm.symR S.ns S.s.ts x=.bad y e→(SyA S x.t).2.1=e∧e≠0∧y=x):=by
 unfold Gm.symR SyA
 by_cases h2:0≤Gm.find S.ns x.t
 ·have h1:¬0≤Gm.find (Gm.names S.s.ts) x.t:=fun h=>by
   obtain⟨i,_,hi,e⟩:=Gm.find_some h2
   have:=hN.no _ (List.getElem_mem hi)
   rw[e]at this
   have:=Gm.find_none.2 this
   omega
  simp only[if_pos h2,if_neg h1]
  refine⟨?_,?_⟩
  ·intro ts' z h;injection h with h;injection h with a b;subst a b;rfl
  ·intro y e h;cases h
 ·simp only[if_neg h2]
  unfold Gm.sym
  obtain⟨p1,p2⟩:=zeO S x
  by_cases h1:0≤Gm.find (Gm.names S.s.ts) x.t
  ·simp only[if_pos h1,if_pos (Or.inl h1)]
   refine⟨?_,?_⟩
   ·intro ts' z h
    have:=p1 ts' z h
    unfold TmA at this
    rw[if_pos h1]at this
    exact this
   ·intro y e h
    unfold Gm.put at h
    rw[if_pos h1]at h
    cases h
  ·simp only[if_neg h1]
   by_cases h3:T.isLit x.t=true∨x.t=[101,114,114,111,114]
   ·simp only[if_pos h3,if_pos (Or.inr h3)]
    exact⟨p1,p2⟩
   ·have h4:¬(0≤Gm.find (Gm.names S.s.ts) x.t∨T.isLit x.t=true∨x.t=[101,114,114,111,114]):=fun h=>h.elim h1 h3
    simp only[if_neg h3,if_neg h4]
    refine⟨?_,?_⟩
    ·intro ts' z h;cases h
    ·intro y e h;injection h with a b;subst a b;exact⟨rfl,by decide,rfl⟩
theorem zhB {S:St} {x:Tok} (hN:Gm.Nin S.s.ts S.ns):(∀ts' z,Gm.symP S.ns S.s.ts x=.ok (ts',z)→PrA S x.t=(z,0,{S with s:={S.s with ts:=ts' } }))∧(∀y e,Gm.symP S.ns S.s.ts x=.bad y e→(PrA S x.t).2.1=e∧e≠0∧y=x):=by
 obtain⟨p1,p2⟩:=zeQ (x:=x) hN
 unfold Gm.symP PrA
 unfold Gm.symR at p1 p2
 by_cases h2:0≤Gm.find S.ns x.t
 ·simp only[if_pos h2]at p1 p2 ⊢
  have:=p1 _ _ rfl
  rw[this,if_pos ⟨rfl,by show -1-Gm.find S.ns x.t<0;omega⟩]
  refine⟨?_,?_⟩
  ·intro ts' z h;cases h
  ·intro y e h;injection h with a b;subst a b;exact⟨rfl,by decide,rfl⟩
 ·simp only[if_neg h2]at p1 p2 ⊢
  refine⟨?_,?_⟩
  ·intro ts' z h
   have hq:=p1 ts' z h
   have hz:0≤z:=by
    unfold Gm.sym at h
    split at h
    ·rcases Gm.put_ok h with⟨j,_,_,hj,_⟩|⟨_,_,hj,_⟩ <;> omega
    ·cases h
   rw[hq,if_neg (by rintro⟨_,q⟩;exact absurd q (by show ¬z<0;omega))]
  ·intro y e h
   obtain⟨q1,q2,q3⟩:=p2 y e h
   rw[if_neg (by rintro⟨q,_⟩;rw[q1]at q;exact q2 q)]
   exact⟨q1,q2,q3⟩
theorem zaR {ns:List (List Int)} {ts:List Gm.Tm} {acc:List Int} {p:Int} {xs:List Tok} {i:Nat} (h:i<xs.length):Gm.rights ns ts acc p (xs.drop i)=if acc.length=6 then .bad xs[i] 5 else(Gm.symR ns ts xs[i]).bind fun q=>Gm.rights ns q.1 (acc++[q.2]) (if 0≤q.2 then q.2 else p) (xs.drop (i+1)):=by
 rw[List.drop_eq_getElem_cons h,Gm.rights]
theorem zbg {ns:List (List Int)} {ts:List Gm.Tm} {acc:List Int} {p:Int} {xs:List Tok} {i:Nat} (h:xs.length≤i):Gm.rights ns ts acc p (xs.drop i)=.ok (ts,acc,p):=by
 rw[List.drop_eq_nil_of_le h,Gm.rights]
theorem zfW (z:Int) (w:World):(Instr.build 45 #[(0,.int .i64 z),(2,.int .i64 (-1))]).run Tryz.prog w=.ok (.agg #[.int .i64 z,.slice none 0 0,.int .i64 (-1)]) w:=run_build w 45 _ _ (by kernel_rfl)
def prR (ns:List (List Int)) (ts:List Gm.Tm) (rs:List Gm.Rl) (pr:Y.Prd):Gm.R (List Gm.Tm×List Gm.Rl):=(Gm.rights ns ts [] (-1) pr.r).bind fun q=>match pr.p with
 | none=>.ok (q.1,rs++[⟨Gm.find ns pr.l.t,q.2.1,q.2.2⟩])
 | some x=>(Gm.symP ns q.1 x).bind fun y=>.ok (y.1,rs++[⟨Gm.find ns pr.l.t,q.2.1,y.2⟩])
theorem zdy {ns:List (List Int)} {ts:List Gm.Tm} {rs:List Gm.Rl} {pr:Y.Prd} {y:Tok} {e:Int} (h:Gm.rights ns ts [] (-1) pr.r=.bad y e):prR ns ts rs pr=.bad y e:=by
 unfold prR;rw[h];rfl
theorem zb0 {ns:List (List Int)} {ts ts':List Gm.Tm} {rs:List Gm.Rl} {pr:Y.Prd} {acc:List Int} {p:Int} (h:Gm.rights ns ts [] (-1) pr.r=.ok (ts',acc,p)) (hp:pr.p=none):prR ns ts rs pr=.ok (ts',rs++[⟨Gm.find ns pr.l.t,acc,p⟩]):=by
 unfold prR;rw[h,Gm.R.bind_ok,hp]
theorem zfE {ns:List (List Int)} {ts ts':List Gm.Tm} {rs:List Gm.Rl} {pr:Y.Prd} {acc:List Int} {p:Int} {x y:Tok} {e:Int} (h:Gm.rights ns ts [] (-1) pr.r=.ok (ts',acc,p)) (hp:pr.p=some x) (hq:Gm.symP ns ts' x=.bad y e):prR ns ts rs pr=.bad y e:=by
 unfold prR;rw[h,Gm.R.bind_ok,hp];simp only[hq];rfl
theorem zfD {ns:List (List Int)} {ts ts' ts2:List Gm.Tm} {rs:List Gm.Rl} {pr:Y.Prd} {acc:List Int} {p z:Int} {x:Tok} (h:Gm.rights ns ts [] (-1) pr.r=.ok (ts',acc,p)) (hp:pr.p=some x) (hq:Gm.symP ns ts' x=.ok (ts2,z)):prR ns ts rs pr=.ok (ts2,rs++[⟨Gm.find ns pr.l.t,acc,z⟩]):=by
 unfold prR;rw[h,Gm.R.bind_ok,hp];simp only[hq];rfl
theorem aM {w:World} {base N:Nat} {v:Value} {rs:List Gm.Rl} (h:bF w base N v rs):∃A c,v=.slice A rs.length c∧rs.length≤c∧c≤maxLen:=by
 obtain⟨qs,_,h2,_⟩:=h
 exact aU h2
theorem zft {ns:List (List Int)} {ts ts':List Gm.Tm} {x:Tok} {z:Int} (h:Gm.symR ns ts x=.ok (ts',z)) (hl:ts.length≤24):ts'.length≤24:=by
 unfold Gm.symR Gm.sym at h
 split at h
 ·injection h with h;injection h with a _;subst a;exact hl
 ·split at h
  ·exact zdx h hl
  ·cases h
theorem zfu {ns:List (List Int)} {ts ts':List Gm.Tm} {x:Tok} {z:Int} (h:Gm.symP ns ts x=.ok (ts',z)) (hl:ts.length≤24):ts'.length≤24:=by
 unfold Gm.symP Gm.sym at h
 split at h
 ·cases h
 ·split at h
  ·exact zdx h hl
  ·cases h
theorem BRaw.more {w:World} {B N N' R:Nat} {cs:Array Value} {vT vN vR:Value} {ts:List Gm.Tm} {ns:List (List Int)} {rs:List Gm.Rl} {Ms Mt:Nat} {ml tl:List (List Int×Value)} (h:BRaw w B N R cs vT vN vR ts ns rs Ms Mt ml tl) (hN:N≤N'):BRaw w B N' R cs vT vN vR ts ns rs Ms Mt ml tl :=
 ⟨h.b,h.t,h.n,h.r.more hN,h.ms,h.mt,h.ne,h.hR,h.hs,h.ht⟩
def zlu (L:List Int) (w':World) (B R:Nat) (S:St) (r:Gm.R (List Gm.Tm×List Gm.Rl)) (e:Ending):Prop:=match r with
 | .ok q=>e=.returned (.tuple #[.complex .f64 0 0,.int .i64 0])∧Bld L w' B w'.heap.size R {S with s:={S.s with ts:=q.1},rs:=q.2}∧Gm.Nin q.1 S.ns∧q.1.length≤24
 | .bad y er=>er≠0∧e=.returned (.tuple #[.complex .f64 (rfX L y) (rfY L y),.int .i64 er])
end Go.Proofs.YtkfelkpilaipnaaGreatDoor
