/- Part of the proofs over this program: Decls9, ShowRule, ShowLev, Lefts9, Sym9, Prj9. -/
import Derived.Maps.AppendAt
import Derived.Test.YtabmfpgpkbndeaaGreatKAG
namespace Go.Proofs.YtabmfpgpkbndeaaGreat
set_option maxRecDepth 100000
set_option maxHeartbeats 40000000
open Go.RowKit
def On9 (B D:Nat) (w:World):Type:={x:World // Below B w x∧x.heap[D]?=w.heap[D]?}
instance (B D:Nat) (w:World):Nonempty (On9 B D w):=⟨⟨w,Below.refl _ _,rfl⟩⟩
structure J9 (s:Gm.S1) (ns:List (List Int)) (rs:List Gm.Rl):Prop where
 f:Gm.Fit ⟨s.ts,ns,rs,0⟩
 h:s.ts.length≤24
 v:0≤s.lv
theorem Fit.put {ts ts':List Gm.Tm} {ns:List (List Int)} {rs:List Gm.Rl} {z n:Int} {x:Tok} (h:Gm.Fit ⟨ts,ns,rs,z⟩) (hx:K.Tx x.t) (hp:Gm.put ts x=.ok (ts',n)):Gm.Fit ⟨ts',ns,rs,z⟩:=by
 rcases Gm.put_ok hp with⟨j,_,rfl,_⟩|⟨_,rfl,_,_⟩
 ·exact h
 ·refine⟨fun t ht=>?_,h.n,h.r,h.s⟩
  rcases List.mem_append.1 ht with h1|h1
  ·exact h.t t h1
  ·simp at h1;subst h1;exact⟨hx,by unfold Gm.In;simp,by unfold Gm.In;simp⟩
theorem zhM {ts ts':List Gm.Tm} {n:Int} {x:Tok} (h:ts.length≤24) (hp:Gm.put ts x=.ok (ts',n)):ts'.length≤24:=by
 rcases Gm.put_ok hp with⟨j,_,rfl,_⟩|⟨_,rfl,_,q⟩
 ·exact h
 ·simp;omega
theorem J9.step {s s':Gm.S1} {ns:List (List Int)} {rs:List Gm.Rl} {x:Tok} {k:Int} (h:J9 s ns rs) (hk:k=4∨k=5) (hx:K.Tx x.t) (hv:s.lv≤1000000) (hd:Gm.decl1 k s x=.ok s') :
  J9 s' ns rs∧s'.lv=s.lv∧(¬(0≤Gm.find (Gm.names s.ts) x.t∧0<(s.ts.map Gm.Tm.lv).getD (Gm.find (Gm.names s.ts) x.t).toNat 0))∧∃ts' n,Gm.put s.ts x=.ok (ts',n)∧s'.ts=ts'.modify n.toNat fun t=>⟨t.nm,s.lv,k-3⟩:=by
 unfold Gm.decl1 at hd
 rw[if_neg (by omega),if_neg (by omega)]at hd
 by_cases h0:0≤Gm.find (Gm.names s.ts) x.t∧0<(s.ts.map Gm.Tm.lv).getD (Gm.find (Gm.names s.ts) x.t).toNat 0
 ·rw[if_pos h0]at hd;cases hd
 ·rw[if_neg h0]at hd
  obtain⟨⟨ts',n⟩,hp,hd⟩:=Gm.R.bind_eq hd
  injection hd with hd
  subst hd
  have hf:=Fit.put h.f hx hp
  refine⟨⟨⟨fun t ht=>?_,h.f.n,h.f.r,h.f.s⟩,?_,h.v⟩,rfl,h0,ts',n,hp,rfl⟩
  ·rcases Gm.mem_modify ht with q|⟨hn,rfl⟩
   ·exact hf.t t q
   ·have:=hf.t _ (List.getElem_mem hn)
    have hv0:=h.v
    exact⟨this.1,by unfold Gm.In;simp only;omega,by unfold Gm.In;simp only;omega⟩
  ·show(ts'.modify _ _).length≤24
   rw[List.length_modify];exact zhM h.h hp
theorem zeb {k:Int} {s:Gm.S1} {xs:List Tok} {i:Nat} (h:i<xs.length):Gm.declN k s (xs.drop i)=(Gm.decl1 k s xs[i]).bind fun s=>Gm.declN k s (xs.drop (i+1)):=by
 rw[List.drop_eq_getElem_cons h,Gm.declN]
theorem zjr (L:List Int) (B N R:Nat) (ns:List (List Int)) (rs:List Gm.Rl) (ds:List Y.Dcl) (S S2:Gm.S1) (A:Option Addr) (c:Nat) (w:World) (hw:Wk w B N R S.ts ns rs S.lv) (hJ:J9 S ns rs) (hk:∀d∈ds,d.k=4∨d.k=5) (hx:∀d∈ds,(∀x∈d.ns,K.Tx x.t∧Gm.named x.t=true)∧d.ns.length≤1000000) (hr:ziL L w B A ds)
  (hN:N≤w.heap.size) (hB:B≤w.heap.size) (hlv:S.lv=0) (hlen:ds.length≤1000) (hp:Gm.decls S ds=.ok S2) :
  Calls Tryz.prog 71 #[.pointer (some ⟨R,0,none⟩),.slice A ds.length c] w fun e w'=>e=.returned (.tuple #[])∧(Wk w' B N R S2.ts ns rs S2.lv∧J9 S2 ns rs)∧Below B w w'∧KpT w w':=by
 have HR:=aA hr
 have HW0:=aA hw
 have HJ0:=aA hJ
 have HP:=aA hp
 have HKX:=aA (fun(i:Nat) (hi:i<ds.length)=>And.intro (hk _ (List.getElem_mem hi)) (hx _ (List.getElem_mem hi)))
 have HLV:=aA hlv
 clear hr hw hJ hp hk hx hlv
 go_enter Tryz.func71,Tryz.ntmps71
 go_wp2
 go_loopw [4] (fun vi wr=>∃(i:Nat) (s:Gm.S1),i≤ds.length∧vi=.int .i64 i∧Hid (Gm.decls s (ds.drop i)=.ok S2)∧Hid (J9 s ns rs)∧Hid (s.lv≤i)∧Hid (Wk wr B N R s.ts ns rs s.lv)∧Hid (Below B w wr)∧Hid (KpT w wr)) (fun vi _=>ds.length-(intOf vi).toNat)
 case atStart=>exact⟨0,S,Nat.zero_le _,rfl,HP,HJ0,aA (by rw[HLV.out];omega),HW0,aA (Below.refl _ _),aA (KpT.refl _)⟩
 case round =>
  rename World=>wo
  obtain⟨i,s,hi,rfl,HE,HJ,HSL,HW,HBW,HKT⟩:=hrel
  obtain⟨vT,vN,vR,hwr⟩:=HW.out
  have HRW:=aA hwr
  have f10:=(hwr.at 10).1
  obtain⟨f8,fz8,hRs⟩:=hwr.at 8
  simp only[wC,List.getElem?_toArray,List.getElem?_cons_zero,List.getElem?_cons_succ]at f10 f8
  clear hwr
  by_cases hlt:i<ds.length
  ·obtain⟨g,o,rfl,hgB,hc⟩:=HR.out (by omega)
   obtain⟨k0,A',c',k1,hrf⟩:=hc i hlt
   have k0:=(HBW.out.cell (p:=⟨g,o+i*2,none⟩) hgB).trans k0
   have k1:=(HBW.out.cell (p:=⟨g,o+i*2+1,none⟩) hgB).trans k1
   have hBs:=HBW.out.size
   have hgs:g<wo.heap.size:=by omega
   have hBr:B≤wo.heap.size:=by omega
   obtain⟨hdk,hdx,hdl⟩:=HKX.out i hlt
   have hE:=HE.out
   rw[zfp hlt]at hE
   obtain⟨s1,h1,h2⟩:=Gm.R.bind_eq hE
   have HN1:=aA h2
   have HD1:=aA (zeE ds[i].ns h1)
   have hup:Gm.up ds[i].k s = {s with lv:=s.lv+1}:=by unfold Gm.up;rw[if_neg (by omega)]
   rw[hup]at h1 HD1
   have HDN:=aA h1
   have HRF:=aA hrf
   have HDX:=aA (fun(j:Nat) (hj:j<ds[i].ns.length)=>hdx _ (List.getElem_mem hj))
   clear hc hrf hE h1 h2 hdx hup
   generalize ds[i]=d at *
   rcases d with⟨kk,ms⟩
   simp only at hdk hdl HDX HRF HDN HD1 k0 k1
   have hlv1:s.lv+1≤1000000:=by have:=HSL.out;omega
   have hlv0:=HJ.out.v
   have HJ1:Hid (J9 {s with lv:=s.lv+1} ns rs):=aA ⟨HJ.out.f,HJ.out.h,by show 0≤s.lv+1;omega⟩
   have HA1:=aA (HRW.out.set 8 (.int .i64 (s.lv+1)))
   have HBs:=aA (HBW.out.setCell (p:=⟨R,8,none⟩) HRW.out.hR (.int .i64 (s.lv+1)))
   have HKs:=aA (HKT.out.trans (KpT.set HRW.out 8 (.int .i64 (s.lv+1))))
   have hzs:(wo.setCell ⟨R,8,none⟩ (.int .i64 (s.lv+1))).heap.size=wo.heap.size:=by simp
   generalize hws:wo.setCell ⟨R,8,none⟩ (.int .i64 (s.lv+1))=ws at *
   have HS1:Hid (Wk (ws.alloc (.cells #[.int .i64 kk,.slice A' ms.length c'] 154)) B N R s.ts ns rs (s.lv+1)):=aA ⟨vT,vN,vR,HA1.out.alloc _⟩
   have HB2:=aA (HBs.out.alloc (by rw[hzs];exact hBr) (.cells #[.int .i64 kk,.slice A' ms.length c'] 154))
   have HK2:=aA (HKs.out.trans (KpT.below ((Below.refl ws.heap.size ws).alloc (Nat.le_refl _) (.cells #[.int .i64 kk,.slice A' ms.length c'] 154))))
   have HDB:Hid ((ws.alloc (.cells #[.int .i64 kk,.slice A' ms.length c'] 154)).heap[wo.heap.size]?=some (.cells #[.int .i64 kk,.slice A' ms.length c'] 154 (0,0))):=aA (by rw[←hzs];exact heap_alloc_new ws _)
   have hk3:(kk != 3)=true:=by rcases hdk with rfl|rfl <;> decide
   have hk7:(kk != 7)=true:=by rcases hdk with rfl|rfl <;> decide
   have hk3':¬kk<3:=by omega
   have hk7':¬7<kk:=by omega
   go_wp2_with fail
   go_loopw [7] (fun vj wr=>∃(j:Nat) (t:Gm.S1),j≤ms.length∧vj=.int .i64 j∧Hid (Gm.declN kk t (ms.drop j)=.ok s1)∧Hid (J9 t ns rs)∧Hid (t.lv=s.lv+1)∧Hid (Wk wr B N R t.ts ns rs t.lv)∧Hid (Below B w wr)∧Hid (KpT w wr)∧Hid (wr.heap[wo.heap.size]?=some (.cells #[.int .i64 kk,.slice A' ms.length c'] 154 (0,0)))) (fun vj _=>ms.length-(intOf vj).toNat)
   case atStart=>exact⟨0,_,Nat.zero_le _,rfl,HDN,HJ1,aA rfl,HS1,HB2,HK2,HDB⟩
   case round =>
    clear hws hzs k0 k1 f10 f8 fz8 HDN HJ1 HS1 HB2 HK2 HDB HA1 HBs HKs
    obtain⟨j,t,hj,rfl,HE2,HJ2,HL2,HW2,HBW2,HKT2,HD2⟩:=hrel
    obtain⟨vT2,vN2,vR2,hwq⟩:=HW2.out
    have HRW2:=aA hwq
    obtain⟨f10,_,hRq⟩:=hwq.at 10
    simp only[wC,List.getElem?_toArray,List.getElem?_cons_zero,List.getElem?_cons_succ]at f10
    clear hwq
    have hDq:wo.heap.size<wr.heap.size:=(Array.getElem?_eq_some_iff.1 HD2.out).1
    have b0:wr.cell? ⟨wo.heap.size,0,none⟩=some (.int .i64 kk):=by rw[cell_of_row wr _ 0 _ _ _ HD2.out];rfl
    have b1:wr.cell? ⟨wo.heap.size,1,none⟩=some (.slice A' ms.length c'):=by rw[cell_of_row wr _ 1 _ _ _ HD2.out];rfl
    by_cases hjl:j<ms.length
    ·obtain⟨q,r,rfl,hqB,hcq⟩:=HRF.out (by omega)
     have m0:=(HBW2.out.cell (p:=⟨q,r+j*2,none⟩) hqB).trans (hcq j hjl).1
     have m1:=(HBW2.out.cell (p:=⟨q,r+j*2+1,none⟩) hqB).trans (hcq j hjl).2
     have hqs:q<wr.heap.size:=by have:=HBW2.out.size;omega
     have hE:=HE2.out
     rw[zeb hjl]at hE
     obtain⟨t1,h1,h2⟩:=Gm.R.bind_eq hE
     have HN2:=aA h2
     obtain⟨hx1,hx2⟩:=HDX.out j hjl
     obtain⟨j1,j2,j3,ts',n,hput,hts⟩:=HJ2.out.step hdk hx1 (by rw[HL2.out];exact hlv1) h1
     have HNX:Hid (J9 t1 ns rs∧t1.lv=s.lv+1):=aA ⟨j1,j2.trans HL2.out⟩
     have HBQ:=HBW2.out.size
     have HDCL:=aA (fun(y:World) (hy:Below wr.heap.size wr y)=>zhu L B N R t.ts ts' ns rs t.lv n kk ms[j] y (HW2.out.below hy) HJ2.out.f hx1 hx2 (Nat.le_trans hN (Nat.le_trans HBQ hy.size)) (Nat.le_trans (Nat.le_trans hB HBQ) hy.size) hdk j3 hput HJ2.out.h)
     rw[←hts,←j2]at HDCL
     have HDB9:=HDCL
     clear HDCL hcq hE h1 h2 j1 j2 j3 hput hts hx1 hx2 HBQ
     unfold bO at HDB9
     generalize K.str ms[j].t=sx at *
     unfold rfX rfY at m1
     generalize Fl.fl (Pl.pos (L.take ms[j].o)).1=X at *
     generalize Fl.fl (Pl.pos (L.take ms[j].o)).2=Y at *
     go_wp2_with fail
     have Q0:=fun y:On9 B wo.heap.size wr=>(show y.1.cell? ⟨wo.heap.size,0,none⟩=some (.int .i64 kk) by rw[cell_of_row y.1 _ 0 _ _ _ (y.2.2.trans HD2.out)];rfl)
     have Q1:=fun y:On9 B wo.heap.size wr=>(show y.1.cell? ⟨wo.heap.size,1,none⟩=some (.slice (some ⟨q,r,none⟩) ms.length c') by rw[cell_of_row y.1 _ 1 _ _ _ (y.2.2.trans HD2.out)];rfl)
     have Q2:=fun y:On9 B wo.heap.size wr=>(y.2.1.cell (p:=⟨q,r+j*2,none⟩) hqB).trans m0
     have Q3:=fun y:On9 B wo.heap.size wr=>(y.2.1.cell (p:=⟨q,r+j*2+1,none⟩) hqB).trans m1
     refine CalmN.region_tree (fun x=>∃y:On9 B wo.heap.size wr,x=y.1) (.one [0,1,2,3,4,5,6,7] 8 (.fin [])) (by kernel_rfl) (by kernel_rfl) (fun _ _ d _ _ h=>by cases d <;> exact h) ⟨⟨wr.drew,aB (Below.refl _ _) 1,rfl⟩,rfl⟩ ?_
     simp only[CalmN.wpT,CalmN.wpSt,CalmN.pickOps,List.getElem?_toArray,List.getElem?_cons_zero,List.getElem?_cons_succ]
     repeat (go_big_quiet_step (fail))
     refine wpQuiet_nil ?_
     clear Q0 Q1 Q2 Q3
     intro KK hKK
     try rw[if_pos (by rfl)]
     go_wp2_with fail
     refine(HDB9.out wr.drew (aB (Below.refl _ _) 1)).mono ?_;rintro _ w2 ⟨rfl,hw2,hb2,hk2⟩
     have HB3:=aA ((aB (Below.refl B wr) 1).trans hb2)
     have HK3:Hid (KpT wr w2):=aA hk2
     have HW3:=aA hw2
     have HD3:=aA (HK3.out _ _ _ HD2.out (by decide) (by decide))
     have HE3:Hid (w2.heap[wo.heap.size]?=wr.heap[wo.heap.size]?):=aA (HD3.out.trans HD2.out.symm)
     clear hw2 hb2 hk2
     go_wp2_with fail
     refine hKK _ _ ⟨⟨w2,HB3.out,HE3.out⟩,rfl⟩ (fun x=>∃y:On9 B wo.heap.size wr,x=y.1) (fun _ h=>h) ⟨⟨w2,HB3.out,HE3.out⟩,rfl⟩ ?_
     refine wpQuiet_nil ?_
     go_wp2
     go_roundw
     case rel=>exact⟨j+1,t1,hjl,by go_num,HN2,aA HNX.out.1,aA HNX.out.2,HW3,aA (HBW2.out.trans HB3.out),aA (HKT2.out.trans HK3.out),HD3⟩
     case measure=>simp[intOf];omega
    ·obtain rfl:j=ms.length:=by omega
     have hE:=HE2.out
     rw[List.drop_length,Gm.declN]at hE
     injection hE with hE
     subst hE
     go_wp2_with fail
     go_roundw
     case rel=>exact⟨i+1,t,hlt,by go_num,HN1,HJ2,aA (by rw[HL2.out];have:=HSL.out;omega),HW2,HBW2,HKT2⟩
     case measure=>simp[intOf];omega
  ·obtain rfl:i=ds.length:=by omega
   have hE:=HE.out
   rw[List.drop_length,Gm.decls]at hE
   injection hE with hE
   subst hE
   go_wp2
   go_end0
   exact⟨rfl,⟨HW.out,HJ.out⟩,HBW.out,HKT.out⟩
theorem bG.alloc {w:World} {base:Nat} {v:Value} {ws:List (List Int)} (h:bG w base v ws) (o:Obj):bG (w.alloc o) base v ws:=World.ownsRow.alloc h o
theorem bG.less {w:World} {base base':Nat} {v:Value} {ws:List (List Int)} (h:bG w base v ws) (hb:base'≤base):bG w base' v ws:=by
 refine⟨h.1,?_⟩
 rcases h.2 with h0|⟨g,cap,cur,e,hb1,hr⟩
 ·exact .inl h0
 ·exact .inr ⟨g,cap,cur,e,by omega,hr⟩
theorem bG.drewN {w:World} {base:Nat} {v:Value} {ws:List (List Int)} (h:bG w base v ws) (n:Nat):bG (w.drewN n) base v ws:=h
theorem bG.below {w w':World} {base:Nat} {v:Value} {ws:List (List Int)} (h:bG w base v ws) (hb:Below w.heap.size w w'):bG w' base v ws :=
 World.ownsRow.kept h (aL hb .none) (by rcases v.ownBlock with _|k;exact .inl rfl;exact .inr (by simp))
theorem bG.form {w:World} {base:Nat} {v:Value} {ws:List (List Int)} (h:bG w base v ws):∃A c,v=.slice A ws.length c∧ws.length≤c∧c≤maxLen:=aM h
namespace Sh
open Gm
end Sh
namespace Sh
open Gm
end Sh
theorem zeI {w:World} {o:Oper} {a:Act} {KK:Act→World→Prop} {Q:Exit→Act→World→Prop}
  (s x:Operand) (t:TypeId) (ho:o.op=.call {callee:=.builtin .append,args:=#[s,x],argTypes:=#[t,t]}) (ht:Tryz.prog.underlying t=some (.slice 9))
  (base:Nat) (v:Value) (ts:List (List Int)) (hs:a.eval s=v) (hown:bG w base v ts) (g c:Nat) (y:List Int) (hx:a.eval x=.slice (some ⟨g,0,none⟩) 1 c) (hz:w.cell? ⟨g,0,none⟩=some (.string (K.str y)))
  (hlen:ts.length≤1000000) (hbase:base≤w.heap.size)
  (hK:∀v' w',bG w' base v' (ts++[y])→w.grownBy w' v.ownBlock→(v'.ownBlock=v.ownBlock∨v'.ownBlock=some w.heap.size)→KK (a.put o.dst v') w') :
  o.wp Tryz.prog a w KK Q:=by
 obtain⟨i,hi,hz0,hz1,hz2⟩:=info_parts zhS
 obtain⟨v',w',hr,h2,h3,h4,h5⟩:=run_append_own_at (P:=Tryz.prog) w base t o.type 9 i (.string ⟨#[]⟩) 1 16 ht hi hz0 hz1 hz2 rfl (by decide) v ts.length (ziP ts) hown ⟨g,0,none⟩ 1 c [.string (K.str y)] rfl (by
  intro j u hj
  rw[zdH,Nat.zero_add]
  rcases j with _|j
  ·simp at hj;rw[←hj];exact hz
  ·simp at hj) (by intro u hu;simp at hu;rcases hu with rfl;rfl) (by unfold maxLen;omega) (by omega) hbase
 unfold Oper.wp execOp
 simp only[ho,resolve,invoke,builtin,Sem.run_bind,Sem.run_pure,Result.andThen_ok,List.map_toArray,List.map_cons,List.map_nil,hs,hx,hr]
 refine hK v' w' ?_ h3 h5
 unfold bG ziP
 rw[List.length_append,List.map_append];exact h2
theorem zaj {w:World} {B N R:Nat} {cs:Array Value} {vT vN vR:Value} {ts:List Gm.Tm} {ns:List (List Int)} {rs:List Gm.Rl} (h:WRaw w B N R cs vT vN vR ts ns rs):(∃A c,vT=.slice A ts.length c)∧(∃A c,vN=.slice A ns.length c)∧∃A c,vR=.slice A rs.length c:=by
 obtain⟨qs,_,h2,_⟩:=id h.r
 obtain⟨A1,c1,e1,_⟩:=aM h.t
 obtain⟨A2,c2,e2,_⟩:=aM h.n
 obtain⟨A3,c3,e3,_⟩:=aM h2
 exact⟨⟨A1,c1,e1⟩,⟨A2,c2,e2⟩,⟨A3,c3,e3⟩⟩
theorem WRaw.drew9 {w:World} {B N R:Nat} {cs:Array Value} {vT vN vR:Value} {ts:List Gm.Tm} {ns:List (List Int)} {rs:List Gm.Rl} (h:WRaw w B N R cs vT vN vR ts ns rs):WRaw w.drew B N R cs vT vN vR ts ns rs:=h.below (aB (Below.refl _ _) 1)
theorem zcI {w:World} {B N R:Nat} {vT vN vR:Value} {lv:Int} {ts:List Gm.Tm} {ns:List (List Int)} {rs:List Gm.Rl} {s:List Int} (hf:Gm.Fit ⟨ts,ns,rs,0⟩) (hs:K.Tx s) (h:WRaw w B N R (wC vT vN vR lv) vT vN vR ts ns rs) (hN:N≤w.heap.size) :
  Calls Tryz.prog 81 #[.agg #[vT,vN,vR,.int .i64 0],.string (K.str s)] w fun e w'=>e=.returned (.int .i64 (Gm.find (Gm.names ts) s))∧Below w.heap.size w w' :=
 zbh _ ⟨ts,ns,rs,0⟩ s _ w (h.rd hN 0) hf hs (Nat.le_refl _)
theorem zcb {w:World} {B N R:Nat} {vT vN vR:Value} {lv:Int} {ts:List Gm.Tm} {ns:List (List Int)} {rs:List Gm.Rl} {s:List Int} (hf:Gm.Fit ⟨ts,ns,rs,0⟩) (hs:K.Tx s) (h:WRaw w B N R (wC vT vN vR lv) vT vN vR ts ns rs) (hN:N≤w.heap.size) :
  Calls Tryz.prog 74 #[.agg #[vT,vN,vR,.int .i64 0],.string (K.str s)] w fun e w'=>e=.returned (.int .i64 (Gm.find ns s))∧Below w.heap.size w w' :=
 zel _ ⟨ts,ns,rs,0⟩ s _ w (h.rd hN 0) hf hs (Nat.le_refl _)
theorem Fit.left {ts:List Gm.Tm} {ns ns':List (List Int)} {rs:List Gm.Rl} {x:Tok} (h:Gm.Fit ⟨ts,ns,rs,0⟩) (hx:K.Tx x.t) (hp:Gm.left1 ts ns x=.ok ns'):Gm.Fit ⟨ts,ns',rs,0⟩:=by
 rcases Gm.left1_ok hp with⟨rfl,_⟩|⟨rfl,_,_,_⟩
 ·exact h
 ·refine⟨h.t,fun y hy=>?_,h.r,h.s⟩
  rcases List.mem_append.1 hy with q|q
  ·exact h.n y q
  ·simp at q;subst q;exact hx
theorem zd6 {ts:List Gm.Tm} {ns ns':List (List Int)} {x:Tok} (h:Gm.left1 ts ns x=.ok ns'):Gm.find (Gm.names ts) x.t<0∧((0≤Gm.find ns x.t∧ns'=ns)∨(Gm.find ns x.t<0∧ns.length≠16∧ns'=ns++[x.t])):=by
 unfold Gm.left1 at h
 split at h
 ·cases h
 ·rename_i h0
  refine⟨by omega,?_⟩
  split at h
  ·rename_i h1;injection h with h;exact .inl ⟨h1,h.symm⟩
  ·rename_i h1
   split at h
   ·cases h
   ·rename_i h2;injection h with h;exact .inr ⟨by omega,h2,h.symm⟩
theorem zjb (L:List Int) (B N R:Nat) (ts:List Gm.Tm) (rs:List Gm.Rl) (ps:List Y.Prd) (ns0 ns2:List (List Int)) (lv:Int) (A:Option Addr) (c:Nat) (w:World) (hw:Wk w B N R ts ns0 rs lv) (hf:Gm.Fit ⟨ts,ns0,rs,0⟩) (hx:∀p∈ps,K.Tx p.l.t∧T.isName p.l.t=true) (hr:ziK L w B A ps)
  (hN:N≤w.heap.size) (hB:B≤w.heap.size) (h16:ns0.length≤16) (hlen:ps.length≤1000) (hp:Gm.lefts ts ns0 ps=.ok ns2) :
  Calls Tryz.prog 72 #[.pointer (some ⟨R,0,none⟩),.slice A ps.length c] w fun e w'=>e=.returned (.tuple #[])∧(Wk w' B N R ts ns2 rs lv∧Gm.Fit ⟨ts,ns2,rs,0⟩∧ns2.length≤16)∧Below B w w'∧KpA w w':=by
 have SC:=fun a w m X Y=>show(store a (.complex .f64 X Y) m).run Tryz.prog w=stored Tryz.prog w a (.complex .f64 X Y) m from run_store _ w a _ m rfl
 have HR:=aA hr
 have HW0:=aA hw
 have HF0:=aA hf
 have H160:=aA h16
 have HP:=aA hp
 have HKX:=aA (fun(i:Nat) (hi:i<ps.length)=>hx _ (List.getElem_mem hi))
 clear hr hw hf hp hx h16
 go_enter Tryz.func72,Tryz.ntmps72
 go_wp2
 go_loopw [4] (fun vi wr=>∃(i:Nat) (ns:List (List Int)),i≤ps.length∧vi=.int .i64 i∧Hid (Gm.lefts ts ns (ps.drop i)=.ok ns2)∧Hid (Gm.Fit ⟨ts,ns,rs,0⟩)∧Hid (ns.length≤16)∧Hid (Wk wr B N R ts ns rs lv)∧Hid (Below B w wr)∧Hid (KpA w wr)) (fun vi _=>ps.length-(intOf vi).toNat)
 case atStart=>exact⟨0,ns0,Nat.zero_le _,rfl,HP,HF0,H160,HW0,aA (Below.refl _ _),aA (KpA.refl _)⟩
 case round =>
  obtain⟨i,ns,hi,rfl,HE,HF,H16,HW,HBW,HKT⟩:=hrel
  obtain⟨vT,vN,vR,hwr⟩:=HW.out
  obtain⟨⟨AT,cT,rfl⟩,⟨AN,cN,rfl⟩,⟨AR,cR,rfl⟩⟩:=zaj hwr
  have HRW:=aA hwr
  obtain⟨f10,_,hRw⟩:=hwr.at 10
  simp only[wC,List.getElem?_toArray,List.getElem?_cons_zero,List.getElem?_cons_succ]at f10
  clear hwr
  by_cases hlt:i<ps.length
  ·obtain⟨g,o,rfl,hgB,hc⟩:=HR.out (by omega)
   have k0:=(HBW.out.cell (p:=⟨g,o+i*5,none⟩) hgB).trans (hc i hlt).1
   have k1:=(HBW.out.cell (p:=⟨g,o+i*5+1,none⟩) hgB).trans (hc i hlt).2.1
   have hBs:=HBW.out.size
   have hgs:g<wr.heap.size:=by omega
   have hBr:B≤wr.heap.size:=by omega
   obtain⟨hx1,hx2⟩:=HKX.out i hlt
   have hE:=HE.out
   rw[zff hlt]at hE
   obtain⟨ns1,h1,h2⟩:=Gm.R.bind_eq hE
   have HN1:=aA h2
   have HF1:=aA (Fit.left HF.out hx1 h1)
   have H161:=aA (zge h1 H16.out)
   obtain⟨hz,hcase⟩:=zd6 h1
   have HTM:=aA (fun(y:World) (lv':Int) (h:WRaw y B N R (wC (.slice AT ts.length cT) (.slice AN ns.length cN) (.slice AR rs.length cR) lv') (.slice AT ts.length cT) (.slice AN ns.length cN) (.slice AR rs.length cR) ts ns rs) (hy:N≤y.heap.size)=>zcI HF.out hx1 h hy)
   have HNO:=aA (fun(y:World) (lv':Int) (h:WRaw y B N R (wC (.slice AT ts.length cT) (.slice AN ns.length cN) (.slice AR rs.length cR) lv') (.slice AT ts.length cT) (.slice AN ns.length cN) (.slice AR rs.length cR) ts ns rs) (hy:N≤y.heap.size)=>zcb HF.out hx1 h hy)
   have HNM:=aA (fun(y:World)=>zbZ ps[i].l.t hx1.1 y)
   rw[hx2]at HNM
   have HCA:=aA hcase
   clear hc hE h1 h2 hx1 hx2 hcase
   generalize ps[i].l=x at *
   generalize rfX L x=X at *
   generalize rfY L x=Y at *
   obtain⟨w1,hw1⟩:∃y,y=wr.alloc (.cells #[.string (K.str x.t),.complex .f64 X Y] 112):=⟨_,rfl⟩
   have HB01:Hid (Below wr.heap.size wr w1):=aA (by rw[hw1];exact(Below.refl _ _).alloc (Nat.le_refl _) _)
   have HDw1:Hid (w1.heap[wr.heap.size]?=some (.cells #[.string (K.str x.t),.complex .f64 X Y] 112 (0,0))):=aA (by rw[hw1];exact heap_alloc_new wr _)
   have HQw1:=aA (HRW.out.below HB01.out)
   have HNw1:Hid (N≤w1.heap.size):=aA (by have:=HB01.out.size;omega)
   generalize hsx:K.str x.t=sx at *
   have HSX:=aA hsx
   clear hsx
   go_wp2_with fail
   try rw[←hw1]
   clear hw1 f10 k0 k1
   refine(HNM.out _).mono ?_;rintro _ _ ⟨rfl,rfl⟩
   go_wp2_with fail
   obtain⟨p0,_,hRs⟩:=HQw1.out.at 0
   have p1:=(HQw1.out.at 1).1
   have p2:=(HQw1.out.at 2).1
   have p3:=(HQw1.out.at 3).1
   simp only[wC,List.getElem?_toArray,List.getElem?_cons_zero,List.getElem?_cons_succ]at p0 p1 p2 p3
   have hDs:wr.heap.size<w1.heap.size:=(Array.getElem?_eq_some_iff.1 HDw1.out).1
   have t0:w1.cell? ⟨wr.heap.size,0,none⟩=some (.string sx):=by rw[cell_of_row w1 _ 0 _ _ _ HDw1.out];rfl
   have Q0:=fun y:Calm.On w1.heap.size w1=>(y.2.cell (p:=⟨R,0,none⟩) hRs).trans p0
   have Q1:=fun y:Calm.On w1.heap.size w1=>(y.2.cell (p:=⟨R,1,none⟩) hRs).trans p1
   have Q2:=fun y:Calm.On w1.heap.size w1=>(y.2.cell (p:=⟨R,2,none⟩) hRs).trans p2
   have Q3:=fun y:Calm.On w1.heap.size w1=>(y.2.cell (p:=⟨R,3,none⟩) hRs).trans p3
   have Q4:=fun y:Calm.On w1.heap.size w1=>(y.2.cell (p:=⟨wr.heap.size,0,none⟩) hDs).trans t0
   refine CalmN.region_tree (fun x=>∃y:Calm.On w1.heap.size w1,x=y.1) (.one [0,1,2,3,4,5] 6 (.fin [7,8])) (by kernel_rfl) (by kernel_rfl) (fun _ _ d _ _ h=>by cases d <;> exact h) ⟨⟨w1.drew,aB (Below.refl _ _) 1⟩,rfl⟩ ?_
   simp only[CalmN.wpT,CalmN.wpSt,CalmN.pickOps,List.getElem?_toArray,List.getElem?_cons_zero,List.getElem?_cons_succ]
   repeat (go_big_quiet_step (fail))
   refine wpQuiet_nil ?_
   clear Q0 Q1 Q2 Q3 Q4 p0 p1 p2 p3 t0
   intro KK hKK
   rw[if_pos (by rfl)]
   go_wp2_with fail
   refine(HTM.out w1.drew _ HQw1.out.drew9 HNw1.out).mono ?_;rintro _ w2 ⟨rfl,hb2⟩
   have hb12:Below w1.heap.size w1 w2:=(aB (Below.refl w1.heap.size w1) 1).trans hb2
   have HBw2:=aA hb12
   have HQw2:=aA (HQw1.out.below hb12)
   have HDw2:=aA ((hb12.block _ hDs).trans HDw1.out)
   have HNw2:=aA (Nat.le_trans HNw1.out hb12.size)
   clear hb2 hb12
   go_wp2_with fail
   refine hKK _ _ ⟨⟨w2,HBw2.out⟩,rfl⟩ (fun x=>∃y:Calm.On w1.heap.size w1,x=y.1) (fun _ h=>h) ⟨⟨w2,HBw2.out⟩,rfl⟩ ?_
   repeat (go_big_quiet_step (fail))
   refine wpQuiet_nil ?_
   clear hKK hDs hRs
   have hz0:¬(0:Int)≤Gm.find (Gm.names ts) x.t:=by omega
   clear hz
   generalize Gm.find (Gm.names ts) x.t=z at *
   go_wp2_with fail
   obtain⟨p0,_,hRs⟩:=HQw2.out.at 0
   have p1:=(HQw2.out.at 1).1
   have p2:=(HQw2.out.at 2).1
   have p3:=(HQw2.out.at 3).1
   simp only[wC,List.getElem?_toArray,List.getElem?_cons_zero,List.getElem?_cons_succ]at p0 p1 p2 p3
   have hDs:wr.heap.size<w2.heap.size:=(Array.getElem?_eq_some_iff.1 HDw2.out).1
   have t0:w2.cell? ⟨wr.heap.size,0,none⟩=some (.string sx):=by rw[cell_of_row w2 _ 0 _ _ _ HDw2.out];rfl
   have Q0:=fun y:Calm.On w2.heap.size w2=>(y.2.cell (p:=⟨R,0,none⟩) hRs).trans p0
   have Q1:=fun y:Calm.On w2.heap.size w2=>(y.2.cell (p:=⟨R,1,none⟩) hRs).trans p1
   have Q2:=fun y:Calm.On w2.heap.size w2=>(y.2.cell (p:=⟨R,2,none⟩) hRs).trans p2
   have Q3:=fun y:Calm.On w2.heap.size w2=>(y.2.cell (p:=⟨R,3,none⟩) hRs).trans p3
   have Q4:=fun y:Calm.On w2.heap.size w2=>(y.2.cell (p:=⟨wr.heap.size,0,none⟩) hDs).trans t0
   refine CalmN.region_tree (fun x=>∃y:Calm.On w2.heap.size w2,x=y.1) (.one [0,1,2,3,4,5] 6 (.fin [7,8])) (by kernel_rfl) (by kernel_rfl) (fun _ _ d _ _ h=>by cases d <;> exact h) ⟨⟨w2.drew,aB (Below.refl _ _) 1⟩,rfl⟩ ?_
   simp only[CalmN.wpT,CalmN.wpSt,CalmN.pickOps,List.getElem?_toArray,List.getElem?_cons_zero,List.getElem?_cons_succ]
   repeat (go_big_quiet_step (fail))
   refine wpQuiet_nil ?_
   clear Q0 Q1 Q2 Q3 Q4 p0 p1 p2 p3 t0
   intro KK hKK
   rw[if_pos (by rfl)]
   go_wp2_with fail
   refine(HNO.out w2.drew _ HQw2.out.drew9 HNw2.out).mono ?_;rintro _ w3 ⟨rfl,hb2⟩
   have hb12:Below w2.heap.size w2 w3:=(aB (Below.refl w2.heap.size w2) 1).trans hb2
   have HBw3:=aA hb12
   have HQw3:=aA (HQw2.out.below hb12)
   have HDw3:=aA ((hb12.block _ hDs).trans HDw2.out)
   have HNw3:=aA (Nat.le_trans HNw2.out hb12.size)
   clear hb2 hb12
   go_wp2_with fail
   refine hKK _ _ ⟨⟨w3,HBw3.out⟩,rfl⟩ (fun x=>∃y:Calm.On w2.heap.size w2,x=y.1) (fun _ h=>h) ⟨⟨w3,HBw3.out⟩,rfl⟩ ?_
   repeat (go_big_quiet_step (fail))
   refine wpQuiet_nil ?_
   clear hKK hDs hRs
   have HBK:=aA (KpA.below (((HB01.out.trans (HBw2.out.mono HB01.out.size)).trans (HBw3.out.mono (Nat.le_trans HB01.out.size HBw2.out.size)))))
   have HBB:=aA (((HB01.out.trans (HBw2.out.mono HB01.out.size)).trans (HBw3.out.mono (Nat.le_trans HB01.out.size HBw2.out.size))).mono hBr)
   rcases HCA.out with⟨h0,e⟩|⟨h0,hl16,e⟩
   ·have HNE:=aA e
    clear e
    generalize Gm.find ns x.t=z2 at *
    go_wp2
    go_roundw
    case rel=>exact⟨i+1,ns,hlt,by go_num,by rw[←HNE.out];exact HN1,HF,H16,aA ⟨_,_,_,HQw3.out⟩,aA (HBW.out.trans HBB.out),aA (HKT.out.trans HBK.out)⟩
    case measure=>simp[intOf];omega
   have HNE:=aA e
   clear e
   have h0':¬(0:Int)≤Gm.find ns x.t:=by omega
   generalize Gm.find ns x.t=z2 at *
   have hl16':((ns.length:Int)==16)=false:=beq_eq_false_iff_ne.2 (by omega)
   obtain⟨k1,hf1,_⟩:=HQw3.out.at 1
   simp only[wC,List.getElem?_toArray,List.getElem?_cons_zero,List.getElem?_cons_succ]at k1
   go_wp2_with fail
   have HO6:=aA ((HQw3.out.alloc (.cells #[.string sx] 9)).n)
   have HB6:Hid (B≤(w3.alloc (.cells #[.string sx] 9)).drew.heap.size):=aA (by have:=HBw3.out.size;have:=HBw2.out.size;have:=HB01.out.size;simp;omega)
   have HCE:Hid ((w3.alloc (.cells #[.string sx] 9)).drew.cell? ⟨w3.heap.size,0,none⟩=some (.string (K.str x.t))):=aA (by rw[HSX.out];exact aK w3 [.string sx] 9 0)
   have HT6:Hid ((w3.alloc (.cells #[.string sx] 9)).heap[wr.heap.size]?=w3.heap[wr.heap.size]?):=aA (((Below.refl _ w3).alloc (Nat.le_refl _) _).block _ (Array.getElem?_eq_some_iff.1 HDw3.out).1)
   have D8:=fun y:Calm.OnB wr.heap.size w3=>(show y.1.cell? ⟨wr.heap.size,0,none⟩=some (.string sx) by rw[cell_of_row y.1 _ 0 _ _ _ (y.2.trans HDw3.out)];rfl)
   refine CalmN.region_tree (fun y=>∃z:Calm.OnB wr.heap.size w3,y=z.1) (.two [0,1,2,3,4,6,7] 5 (.one [] 8 (.one [] 9 (.one [10,11,12] 13 (.fin [])))) 8 (.one [] 5 (.one [] 9 (.one [10,11,12] 13 (.fin []))))) (by kernel_rfl) (by kernel_rfl) (fun _ _ d _ _ h=>by cases d <;> exact h) ⟨⟨w3.drew,rfl⟩,rfl⟩ ?_
   simp only[CalmN.wpT,CalmN.wpSt,CalmN.pickOps,List.getElem?_toArray,List.getElem?_cons_zero,List.getElem?_cons_succ]
   repeat (go_big_quiet_step (fail))
   refine wpQuiet_nil ?_
   clear D8
   refine⟨?_,?_⟩
   ·intro KK hKK
    rw[if_pos (by rfl)]
    go_wp2_with fail
    refine hKK _ _ ⟨⟨w3.drew,rfl⟩,rfl⟩ (fun y=>∃z:Calm.OnB wr.heap.size w3,y=z.1) (fun _ h=>h) ⟨⟨w3.drew,rfl⟩,rfl⟩ ?_
    refine wpQuiet_nil ?_
    intro KK hKK
    try rw[if_pos (by rfl)]
    go_wp2_with fail
    refine hKK _ _ ⟨⟨(w3.alloc (.cells #[.string sx] 9)).drew,HT6.out⟩,rfl⟩ (fun y=>∃z:Calm.OnB wr.heap.size w3,y=z.1) (fun _ h=>h) ⟨⟨(w3.alloc (.cells #[.string sx] 9)).drew,HT6.out⟩,rfl⟩ ?_
    refine wpQuiet_nil ?_
    intro KK hKK
    try rw[if_pos (by rfl)]
    refine zeI (w:=(w3.alloc (.cells #[.string sx] 9)).drew) (.tmp 29) (.tmp 32) _ rfl Tryz.underlying23 B (.slice AN ns.length cN) ns rfl HO6.out _ 1 x.t rfl HCE.out (by have:=H16.out;omega) HB6.out ?_
    intro v7 w7 ho7 hg7' _
    have hg7:=(aJ (w3.alloc (.cells #[.string sx] 9)) _).trans hg7'
    obtain⟨A7,c7,hv7,_,_⟩:=aM ho7
    rw[show(ns++[x.t]).length=ns.length+1 by simp]at hv7
    subst hv7
    have hW7:=(HQw3.out.alloc (.cells #[.string sx] 9)).n_put ho7 hg7
    have HW7:=aA hW7
    obtain⟨k7,hf7,hR7⟩:=hW7.at 1
    simp only[wC,List.getElem?_toArray,List.getElem?_cons_zero,List.getElem?_cons_succ]at k7
    have hb4:Below w3.heap.size w3 (w3.alloc (.cells #[.string sx] 9)):=(Below.refl _ w3).alloc (Nat.le_refl _) (.cells #[.string sx] 9)
    have HK7:=aA ((KpA.below hb4).trans (KpA.own (HQw3.out.alloc (.cells #[.string sx] 9)).n hg7 (.inr (.inl rfl))))
    have HT7:Hid (w7.heap[wr.heap.size]?=w3.heap[wr.heap.size]?):=aA ((HK7.out _ _ _ HDw3.out (by decide) (by decide) (by decide) (by decide)).trans HDw3.out.symm)
    have HB7:=aA ((HBB.out.alloc (by have:=HB6.out;have:=HBB.out.size;omega) (.cells #[.string sx] 9)).grown hg7 (by have:=HB6.out;simpa using this) (fun k e=>(aH HQw3.out.n e).1))
    clear ho7 hg7 hg7' hW7 hb4
    go_wp2_with fail
    refine hKK _ _ ⟨⟨w7,HT7.out⟩,rfl⟩ (fun y=>∃z:Calm.OnB wr.heap.size w3,y=z.1) (fun _ h=>h) ⟨⟨w7,HT7.out⟩,rfl⟩ ?_
    repeat (go_big_quiet_step (fail))
    refine wpQuiet_nil ?_
    intro KK hKK
    try rw[if_pos (by rfl)]
    go_wp2_with fail
    have HW8:=aA (HW7.out.set 1 (.slice A7 (ns.length+1) c7))
    have HK8:=aA (HK7.out.trans (KpT.set HW7.out 1 (.slice A7 (ns.length+1) c7)).a)
    have HB8:=aA (HB7.out.setCell (p:=⟨R,1,none⟩) HW7.out.hR (.slice A7 (ns.length+1) c7))
    have HT8:Hid ((w7.setCell ⟨R,1,none⟩ (.slice A7 (ns.length+1) c7)).heap[wr.heap.size]?=w3.heap[wr.heap.size]?):=aA ((HK8.out _ _ _ HDw3.out (by decide) (by decide) (by decide) (by decide)).trans HDw3.out.symm)
    refine hKK _ _ ⟨⟨_,HT8.out⟩,rfl⟩ (fun y=>∃z:Calm.OnB wr.heap.size w3,y=z.1) (fun _ h=>h) ⟨⟨_,HT8.out⟩,rfl⟩ ?_
    refine wpQuiet_nil ?_
    clear k7 hf7
    go_wp2
    go_roundw
    case rel=>exact⟨i+1,ns++[x.t],hlt,by go_num,by rw[←HNE.out];exact HN1,by rw[←HNE.out];exact HF1,by rw[←HNE.out];exact H161,aA ⟨_,_,_,HW8.out⟩,aA (HBW.out.trans HB8.out),aA ((HKT.out.trans HBK.out).trans HK8.out)⟩
    case measure=>simp[intOf];omega
   ·intro KK hKK
    rw[if_pos (by rfl)]
    go_wp2_with fail
    refine hKK _ _ ⟨⟨(w3.alloc (.cells #[.string sx] 9)).drew,HT6.out⟩,rfl⟩ (fun y=>∃z:Calm.OnB wr.heap.size w3,y=z.1) (fun _ h=>h) ⟨⟨(w3.alloc (.cells #[.string sx] 9)).drew,HT6.out⟩,rfl⟩ ?_
    refine wpQuiet_nil ?_
    intro KK hKK
    try rw[if_pos (by rfl)]
    go_wp2_with fail
    refine hKK _ _ ⟨⟨(w3.alloc (.cells #[.string sx] 9)).drew,HT6.out⟩,rfl⟩ (fun y=>∃z:Calm.OnB wr.heap.size w3,y=z.1) (fun _ h=>h) ⟨⟨(w3.alloc (.cells #[.string sx] 9)).drew,HT6.out⟩,rfl⟩ ?_
    refine wpQuiet_nil ?_
    intro KK hKK
    try rw[if_pos (by rfl)]
    refine zeI (w:=(w3.alloc (.cells #[.string sx] 9)).drew) (.tmp 29) (.tmp 32) _ rfl Tryz.underlying23 B (.slice AN ns.length cN) ns rfl HO6.out _ 1 x.t rfl HCE.out (by have:=H16.out;omega) HB6.out ?_
    intro v7 w7 ho7 hg7' _
    have hg7:=(aJ (w3.alloc (.cells #[.string sx] 9)) _).trans hg7'
    obtain⟨A7,c7,hv7,_,_⟩:=aM ho7
    rw[show(ns++[x.t]).length=ns.length+1 by simp]at hv7
    subst hv7
    have hW7:=(HQw3.out.alloc (.cells #[.string sx] 9)).n_put ho7 hg7
    have HW7:=aA hW7
    obtain⟨k7,hf7,hR7⟩:=hW7.at 1
    simp only[wC,List.getElem?_toArray,List.getElem?_cons_zero,List.getElem?_cons_succ]at k7
    have hb4:Below w3.heap.size w3 (w3.alloc (.cells #[.string sx] 9)):=(Below.refl _ w3).alloc (Nat.le_refl _) (.cells #[.string sx] 9)
    have HK7:=aA ((KpA.below hb4).trans (KpA.own (HQw3.out.alloc (.cells #[.string sx] 9)).n hg7 (.inr (.inl rfl))))
    have HT7:Hid (w7.heap[wr.heap.size]?=w3.heap[wr.heap.size]?):=aA ((HK7.out _ _ _ HDw3.out (by decide) (by decide) (by decide) (by decide)).trans HDw3.out.symm)
    have HB7:=aA ((HBB.out.alloc (by have:=HB6.out;have:=HBB.out.size;omega) (.cells #[.string sx] 9)).grown hg7 (by have:=HB6.out;simpa using this) (fun k e=>(aH HQw3.out.n e).1))
    clear ho7 hg7 hg7' hW7 hb4
    go_wp2_with fail
    refine hKK _ _ ⟨⟨w7,HT7.out⟩,rfl⟩ (fun y=>∃z:Calm.OnB wr.heap.size w3,y=z.1) (fun _ h=>h) ⟨⟨w7,HT7.out⟩,rfl⟩ ?_
    repeat (go_big_quiet_step (fail))
    refine wpQuiet_nil ?_
    intro KK hKK
    try rw[if_pos (by rfl)]
    go_wp2_with fail
    have HW8:=aA (HW7.out.set 1 (.slice A7 (ns.length+1) c7))
    have HK8:=aA (HK7.out.trans (KpT.set HW7.out 1 (.slice A7 (ns.length+1) c7)).a)
    have HB8:=aA (HB7.out.setCell (p:=⟨R,1,none⟩) HW7.out.hR (.slice A7 (ns.length+1) c7))
    have HT8:Hid ((w7.setCell ⟨R,1,none⟩ (.slice A7 (ns.length+1) c7)).heap[wr.heap.size]?=w3.heap[wr.heap.size]?):=aA ((HK8.out _ _ _ HDw3.out (by decide) (by decide) (by decide) (by decide)).trans HDw3.out.symm)
    refine hKK _ _ ⟨⟨_,HT8.out⟩,rfl⟩ (fun y=>∃z:Calm.OnB wr.heap.size w3,y=z.1) (fun _ h=>h) ⟨⟨_,HT8.out⟩,rfl⟩ ?_
    refine wpQuiet_nil ?_
    clear k7 hf7
    go_wp2
    go_roundw
    case rel=>exact⟨i+1,ns++[x.t],hlt,by go_num,by rw[←HNE.out];exact HN1,by rw[←HNE.out];exact HF1,by rw[←HNE.out];exact H161,aA ⟨_,_,_,HW8.out⟩,aA (HBW.out.trans HB8.out),aA ((HKT.out.trans HBK.out).trans HK8.out)⟩
    case measure=>simp[intOf];omega
  ·obtain rfl:i=ps.length:=by omega
   have hE:=HE.out
   rw[zgc (Nat.le_refl _)]at hE
   injection hE with hE
   subst hE
   go_wp2
   go_end0
   exact⟨rfl,⟨HW.out,HF.out,H16.out⟩,HBW.out,HKT.out⟩
theorem zfB {ts ts':List Gm.Tm} {x:Tok} {n:Int} (h:Gm.sym ts x=.ok (ts',n)) (he:x.t≠[101,114,114,111,114]):Gm.put ts x=.ok (ts',n)∧(0≤Gm.find (Gm.names ts) x.t∨(Gm.find (Gm.names ts) x.t<0∧T.isLit x.t=true)):=by
 unfold Gm.sym at h
 split at h
 ·rename_i q
  refine⟨h,?_⟩
  rcases q with q|q|q
  ·exact .inl q
  ·by_cases h0:0≤Gm.find (Gm.names ts) x.t
   ·exact .inl h0
   ·exact .inr ⟨by omega,q⟩
  ·exact absurd q he
 ·cases h
theorem zcU (L:List Int) (B N R:Nat) (ts ts':List Gm.Tm) (ns:List (List Int)) (rs:List Gm.Rl) (lv n:Int) (x:Tok) (may:Bool) (w:World) (hw:Wk w B N R ts ns rs lv) (hf:Gm.Fit ⟨ts,ns,rs,0⟩) (hx:K.Tx x.t) (he:x.t≠[101,114,114,111,114]) (hN:N≤w.heap.size) (hB:B≤w.heap.size) (hlo:(0≤Gm.find ns x.t∧may=true∧ts'=ts∧n = -1-Gm.find ns x.t)∨(Gm.find ns x.t<0∧Gm.sym ts x=.ok (ts',n))) (h24:ts.length≤24) (h16:ns.length≤16) :
  Calls Tryz.prog 107 #[.pointer (some ⟨R,0,none⟩),bO L x,.bool may] w fun e w'=>e=.returned (.int .i64 n)∧Wk w' B N R ts' ns rs lv∧Below B w w'∧KpT w w':=by
 have HW:=aA hw
 obtain⟨vT,vN,vR,hwr⟩:=HW.out
 obtain⟨⟨AT,cT,rfl⟩,⟨AN,cN,rfl⟩,⟨AR,cR,rfl⟩⟩:=zaj hwr
 have HRW:=aA hwr
 have HF:=aA hf
 have HX:=aA hx
 have hRw:=hwr.lt
 clear hwr
 have HTM:=aA (fun(y:World) (lv':Int) (h:WRaw y B N R (wC (.slice AT ts.length cT) (.slice AN ns.length cN) (.slice AR rs.length cR) lv') (.slice AT ts.length cT) (.slice AN ns.length cN) (.slice AR rs.length cR) ts ns rs) (hy:N≤y.heap.size)=>zcI hf hx h hy)
 have HNO:=aA (fun(y:World) (lv':Int) (h:WRaw y B N R (wC (.slice AT ts.length cT) (.slice AN ns.length cN) (.slice AR rs.length cR) lv') (.slice AT ts.length cT) (.slice AN ns.length cN) (.slice AR rs.length cR) ts ns rs) (hy:N≤y.heap.size)=>zcb hf hx h hy)
 have HLT:=aA (fun(y:World)=>zcW x.t hx.1 y)
 have HTE:=aA (fun(hp:Gm.put ts x=.ok (ts',n)) (y:World) (h:Wk y B N R ts ns rs lv) (hy:N≤y.heap.size) (hz:B≤y.heap.size)=>zdm L B N R ts ts' ns rs lv n x y h hf hx hy hz hp h24)
 have HSY:=aA (fun h=>zfB (ts:=ts) (ts':=ts') (x:=x) (n:=n) h he)
 unfold bO at HTE ⊢
 have hBr:=hB
 generalize Fl.fl (Pl.pos (L.take x.o)).1=X at *
 generalize Fl.fl (Pl.pos (L.take x.o)).2=Y at *
 obtain⟨w1,hw1⟩:∃y,y=w.alloc (.cells #[.string (K.str x.t),.complex .f64 X Y] 112):=⟨_,rfl⟩
 have HB01:Hid (Below w.heap.size w w1):=aA (by rw[hw1];exact(Below.refl _ _).alloc (Nat.le_refl _) _)
 have HDw1:Hid (w1.heap[w.heap.size]?=some (.cells #[.string (K.str x.t),.complex .f64 X Y] 112 (0,0))):=aA (by rw[hw1];exact heap_alloc_new w _)
 have HQw1:=aA (HRW.out.below HB01.out)
 have HNw1:Hid (N≤w1.heap.size):=aA (by have:=HB01.out.size;omega)
 generalize K.str x.t=sx at *
 have HLO:=aA hlo
 clear hlo hf hx hw
 go_enter Tryz.func107,Tryz.ntmps107
 go_wp2_with fail
 try rw[←hw1]
 clear hw1
 obtain⟨p0,_,hRs⟩:=HQw1.out.at 0
 have p1:=(HQw1.out.at 1).1
 have p2:=(HQw1.out.at 2).1
 have p3:=(HQw1.out.at 3).1
 simp only[wC,List.getElem?_toArray,List.getElem?_cons_zero,List.getElem?_cons_succ]at p0 p1 p2 p3
 have hDs:w.heap.size<w1.heap.size:=(Array.getElem?_eq_some_iff.1 HDw1.out).1
 have t0:w1.cell? ⟨w.heap.size,0,none⟩=some (.string sx):=by rw[cell_of_row w1 _ 0 _ _ _ HDw1.out];rfl
 have Q0:=fun y:Calm.On w1.heap.size w1=>(y.2.cell (p:=⟨R,0,none⟩) hRs).trans p0
 have Q1:=fun y:Calm.On w1.heap.size w1=>(y.2.cell (p:=⟨R,1,none⟩) hRs).trans p1
 have Q2:=fun y:Calm.On w1.heap.size w1=>(y.2.cell (p:=⟨R,2,none⟩) hRs).trans p2
 have Q3:=fun y:Calm.On w1.heap.size w1=>(y.2.cell (p:=⟨R,3,none⟩) hRs).trans p3
 have Q4:=fun y:Calm.On w1.heap.size w1=>(y.2.cell (p:=⟨w.heap.size,0,none⟩) hDs).trans t0
 refine CalmN.region_tree (fun x=>∃y:Calm.On w1.heap.size w1,x=y.1) (.one [0,1,2,3,4,5] 6 (.fin [7])) (by kernel_rfl) (by kernel_rfl) (fun _ _ d _ _ h=>by cases d <;> exact h) ⟨⟨w1.drew,aB (Below.refl _ _) 1⟩,rfl⟩ ?_
 simp only[CalmN.wpT,CalmN.wpSt,CalmN.pickOps,List.getElem?_toArray,List.getElem?_cons_zero,List.getElem?_cons_succ]
 repeat (go_big_quiet_step (fail))
 refine wpQuiet_nil ?_
 clear Q0 Q1 Q2 Q3 Q4 p0 p1 p2 p3 t0
 intro KK hKK
 rw[if_pos (by rfl)]
 go_wp2_with fail
 refine(HNO.out w1.drew _ HQw1.out.drew9 HNw1.out).mono ?_;rintro _ w2 ⟨rfl,hb2⟩
 have hb12:Below w1.heap.size w1 w2:=(aB (Below.refl w1.heap.size w1) 1).trans hb2
 have HBw2:=aA hb12
 have HQw2:=aA (HQw1.out.below hb12)
 have HDw2:=aA ((hb12.block _ hDs).trans HDw1.out)
 have HNw2:=aA (Nat.le_trans HNw1.out hb12.size)
 clear hb2 hb12
 go_wp2_with fail
 refine hKK _ _ ⟨⟨w2,HBw2.out⟩,rfl⟩ (fun x=>∃y:Calm.On w1.heap.size w1,x=y.1) (fun _ h=>h) ⟨⟨w2,HBw2.out⟩,rfl⟩ ?_
 repeat (go_big_quiet_step (fail))
 refine wpQuiet_nil ?_
 clear hKK hDs hRs
 have HB2:=aA (HB01.out.trans (HBw2.out.mono HB01.out.size))
 rcases HLO.out with⟨h0,h1,h2,h3⟩|⟨h0,hsy⟩
 ·subst h1
  have HEQ:=aA (And.intro h2 h3)
  clear h2 h3
  have hzl:=Gm.find_lt ns x.t
  generalize Gm.find ns x.t=z at *
  have hwr:wrap64 (-1-z) = -1-z:=by unfold wrap64;omega
  go_wp2
  go_ret
  exact⟨by rw[HEQ.out.2];simp,by rw[HEQ.out.1];exact⟨_,_,_,HQw2.out⟩,HB2.out.mono hB,KpT.below HB2.out⟩
 ·obtain⟨hput,hc⟩:=HSY.out hsy
  have h0':¬(0:Int)≤Gm.find ns x.t:=by omega
  have HTP:=aA (HTE.out hput)
  clear hsy hput HTE HLO HSY
  generalize Gm.find ns x.t=z at *
  have hmz:(decide (0≤z)&&may)=false:=by simp[h0']
  go_wp2_with fail
  obtain⟨p0,_,hRs⟩:=HQw2.out.at 0
  have p1:=(HQw2.out.at 1).1
  have p2:=(HQw2.out.at 2).1
  have p3:=(HQw2.out.at 3).1
  simp only[wC,List.getElem?_toArray,List.getElem?_cons_zero,List.getElem?_cons_succ]at p0 p1 p2 p3
  have hDs:w.heap.size<w2.heap.size:=(Array.getElem?_eq_some_iff.1 HDw2.out).1
  have u0:w2.cell? ⟨w.heap.size,0,none⟩=some (.string sx):=by rw[cell_of_row w2 _ 0 _ _ _ HDw2.out];rfl
  have Q0:=fun y:Calm.On w2.heap.size w2=>(y.2.cell (p:=⟨R,0,none⟩) hRs).trans p0
  have Q1:=fun y:Calm.On w2.heap.size w2=>(y.2.cell (p:=⟨R,1,none⟩) hRs).trans p1
  have Q2:=fun y:Calm.On w2.heap.size w2=>(y.2.cell (p:=⟨R,2,none⟩) hRs).trans p2
  have Q3:=fun y:Calm.On w2.heap.size w2=>(y.2.cell (p:=⟨R,3,none⟩) hRs).trans p3
  have Q4:=fun y:Calm.On w2.heap.size w2=>(y.2.cell (p:=⟨w.heap.size,0,none⟩) hDs).trans u0
  clear u0
  refine CalmN.region_tree (fun x=>∃y:Calm.On w2.heap.size w2,x=y.1) (.one [0,1,2,3,4,5] 6 (.one [7,8,9,10] 11 (.fin [12,13,14,15,16,17,18]))) (by kernel_rfl) (by kernel_rfl) (fun _ _ d _ _ h=>by cases d <;> exact h) ⟨⟨w2.drew,aB (Below.refl _ _) 1⟩,rfl⟩ ?_
  simp only[CalmN.wpT,CalmN.wpSt,CalmN.pickOps,List.getElem?_toArray,List.getElem?_cons_zero,List.getElem?_cons_succ]
  repeat (go_big_quiet_step (fail))
  refine wpQuiet_nil ?_
  intro KK hKK
  rw[if_pos (by rfl)]
  go_wp2_with fail
  refine(HTM.out w2.drew _ HQw2.out.drew9 HNw2.out).mono ?_;rintro _ w3 ⟨rfl,hb2⟩
  have hb12:Below w2.heap.size w2 w3:=(aB (Below.refl w2.heap.size w2) 1).trans hb2
  have HBw3:=aA hb12
  have HQw3:=aA (HQw2.out.below hb12)
  have HDw3:=aA ((hb12.block _ hDs).trans HDw2.out)
  have HNw3:=aA (Nat.le_trans HNw2.out hb12.size)
  clear hb2 hb12
  go_wp2_with fail
  refine hKK _ _ ⟨⟨w3,HBw3.out⟩,rfl⟩ (fun x=>∃y:Calm.On w2.heap.size w2,x=y.1) (fun _ h=>h) ⟨⟨w3,HBw3.out⟩,rfl⟩ ?_
  have HB3:=aA (HB2.out.trans (HBw3.out.mono HB2.out.size))
  rcases hc with hc|⟨hc,hlit⟩
  ·have hcT:decide (0≤Gm.find (Gm.names ts) x.t)=true:=decide_eq_true hc
   generalize Gm.find (Gm.names ts) x.t=z2 at *
   repeat (go_big_quiet_step (fail))
   refine wpQuiet_nil ?_
   intro KK2 hKK2
   rw[if_neg (by exact(fun h=>absurd (show false=true from h) (by decide)))]
   refine hKK2 _ _ ⟨⟨w3,HBw3.out⟩,rfl⟩ (fun x=>∃y:Calm.On w2.heap.size w2,x=y.1) (fun _ h=>h) ⟨⟨w3,HBw3.out⟩,rfl⟩ ?_
   simp only[Act.put,List.setIfInBounds_toArray,List.set_cons_succ,List.set_cons_zero]
   repeat (go_big_quiet_step (fail))
   refine wpQuiet_nil ?_
   have hDs3:w.heap.size<w3.heap.size:=(Array.getElem?_eq_some_iff.1 HDw3.out).1
   have t0:w3.cell? ⟨w.heap.size,0,none⟩=some (.string sx):=by rw[cell_of_row w3 _ 0 _ _ _ HDw3.out];rfl
   have t1:w3.cell? ⟨w.heap.size,1,none⟩=some (.complex .f64 X Y):=by rw[cell_of_row w3 _ 1 _ _ _ HDw3.out];rfl
   have HC:=aA (HTP.out w3 ⟨_,_,_,HQw3.out⟩ HNw3.out (Nat.le_trans hB HB3.out.size))
   clear Q0 Q1 Q2 Q3 Q4 p0 p1 p2 p3
   go_wp2_with fail
   refine HC.out.mono ?_;rintro _ w4 ⟨rfl,hw4,hb4,hk4⟩
   have HFI:=aA (And.intro hw4 (And.intro ((HB3.out.mono hB).trans hb4) ((KpT.below HB3.out).trans hk4)))
   clear hw4 hb4 hk4 t0 t1
   go_wp2
   go_ret
   exact⟨rfl,HFI.out⟩
  ·have hcF:decide (0≤Gm.find (Gm.names ts) x.t)=false:=decide_eq_false (by omega)
   rw[hlit]at HLT
   generalize Gm.find (Gm.names ts) x.t=z2 at *
   repeat (go_big_quiet_step (fail))
   refine wpQuiet_nil ?_
   intro KK2 hKK2
   rw[if_pos (by rfl)]
   go_wp2_with fail
   refine(HLT.out _).mono ?_;rintro _ _ ⟨rfl,rfl⟩
   go_wp2_with fail
   refine hKK2 _ _ ⟨⟨w3,HBw3.out⟩,rfl⟩ (fun x=>∃y:Calm.On w2.heap.size w2,x=y.1) (fun _ h=>h) ⟨⟨w3,HBw3.out⟩,rfl⟩ ?_
   repeat (go_big_quiet_step (fail))
   refine wpQuiet_nil ?_
   have hDs3:w.heap.size<w3.heap.size:=(Array.getElem?_eq_some_iff.1 HDw3.out).1
   have t0:w3.cell? ⟨w.heap.size,0,none⟩=some (.string sx):=by rw[cell_of_row w3 _ 0 _ _ _ HDw3.out];rfl
   have t1:w3.cell? ⟨w.heap.size,1,none⟩=some (.complex .f64 X Y):=by rw[cell_of_row w3 _ 1 _ _ _ HDw3.out];rfl
   have HC:=aA (HTP.out w3 ⟨_,_,_,HQw3.out⟩ HNw3.out (Nat.le_trans hB HB3.out.size))
   clear Q0 Q1 Q2 Q3 Q4 p0 p1 p2 p3
   go_wp2_with fail
   refine HC.out.mono ?_;rintro _ w4 ⟨rfl,hw4,hb4,hk4⟩
   have HFI:=aA (And.intro hw4 (And.intro ((HB3.out.mono hB).trans hb4) ((KpT.below HB3.out).trans hk4)))
   clear hw4 hb4 hk4 t0 t1
   go_wp2
   go_ret
   exact⟨rfl,HFI.out⟩
theorem KpT.beyond {w wr w':World} {row:Option Nat} (h:KpT w wr) (hg:wr.grownBy w' row) (hr:∀k,row=some k→w.heap.size≤k):KpT w w':=fun g cs T h1 h2 h3=>by
 have hk:=h g cs T h1 h2 h3
 refine(hg.block g (Array.getElem?_eq_some_iff.1 hk).1 (fun e=>?_)).trans hk
 have:=hr g e.symm
 have:=(Array.getElem?_eq_some_iff.1 h1).1
 omega
theorem aS.kpT {w w':World} {base:Nat} {v:Value} {xs:List Int} (h:aS w base v xs) (hk:KpT w w'):aS w' base v xs:=by
 refine⟨h.1,?_⟩
 rcases h.2 with h0|⟨g,cap,cur,e,hb,hg,hr⟩
 ·exact .inl h0
 ·exact .inr ⟨g,cap,cur,e,hb,hk g cur _ hg (by decide) (by decide),hr⟩
theorem aS.off9 {w:World} {N:Nat} {v:Value} {xs:List Int} (h:aS w N v xs):Off9 w N v.ownBlock:=⟨fun g e=>by
 obtain⟨h1,cur,h2⟩:=aH h e
 exact⟨_,_,h2,by decide,by decide,by decide,.inr h1⟩⟩
theorem Wk.grown {w w':World} {B N R:Nat} {ts:List Gm.Tm} {ns:List (List Int)} {rs:List Gm.Rl} {lv:Int} {row:Option Nat} (h:Wk w B N R ts ns rs lv) (hg:w.grownBy w' row) (ho:Off9 w N row):Wk w' B N R ts ns rs lv:=by
 obtain⟨vT,vN,vR,h⟩:=h;exact⟨vT,vN,vR,h.grown hg ho⟩
structure PrJ (w0 wr:World) (B R Q:Nat) (ns:List (List Int)) (rs:List Gm.Rl) (lv:Int) (ts:List Gm.Tm) (PC:Array Value) (lf:Int) (v:Value) (acc:List Int) (p:Int):Prop where
 b:Wk wr B w0.heap.size R ts ns rs lv
 f:Gm.Fit ⟨ts,ns,rs,0⟩
 t:ts.length≤24
 w:Below B w0 wr
 k:KpT w0 wr
 q:w0.heap.size<Q
 pb:wr.heap[w0.heap.size]?=some (.cells PC 120 (0,0))
 qb:wr.heap[Q]?=some (.cells #[.int .i64 lf,v,.int .i64 p] 60 (0,0))
 o:aS wr w0.heap.size v acc
section
variable {w0 wr w':World} {B R Q:Nat} {ns:List (List Int)} {rs:List Gm.Rl} {lv:Int} {ts:List Gm.Tm} {PC:Array Value} {lf p p':Int} {v v':Value} {acc acc':List Int}
theorem PrJ.alloc (h:PrJ w0 wr B R Q ns rs lv ts PC lf v acc p) (o:Obj) (hB:B≤w0.heap.size):PrJ w0 (wr.alloc o) B R Q ns rs lv ts PC lf v acc p :=
 ⟨h.b.alloc o,h.f,h.t,h.w.alloc (Nat.le_trans hB h.w.size) o,h.k.trans (KpT.below ((Below.refl _ _).alloc (Nat.le_refl _) o)),h.q,(Below.heap_alloc wr o _ (Array.getElem?_eq_some_iff.1 h.pb).1).trans h.pb,(Below.heap_alloc wr o _ (Array.getElem?_eq_some_iff.1 h.qb).1).trans h.qb,h.o.alloc o⟩
theorem PrJ.call (h:PrJ w0 wr B R Q ns rs lv ts PC lf v acc p) {ts':List Gm.Tm} (hb:Wk w' B w0.heap.size R ts' ns rs lv) (hw:Below B wr w') (hk:KpT wr w') (hf:Gm.Fit ⟨ts',ns,rs,0⟩) (ht:ts'.length≤24):PrJ w0 w' B R Q ns rs lv ts' PC lf v acc p :=
 ⟨hb,hf,ht,h.w.trans hw,h.k.trans hk,h.q,hk _ _ _ h.pb (by decide) (by decide),hk _ _ _ h.qb (by decide) (by decide),h.o.kpT hk⟩
theorem PrJ.off (hq:w0.heap.size<Q) (qb:wr.heap[Q]?=some (.cells #[.int .i64 lf,v,.int .i64 p] 60 (0,0))):Off9 wr w0.heap.size (some Q):=⟨fun g e=>by
 injection e with e
 subst e
 exact⟨_,_,qb,by decide,by decide,by decide,.inr (by omega)⟩⟩
theorem PrJ.setQ (h:PrJ w0 wr B R Q ns rs lv ts PC lf v acc p) (j:Nat) (u:Value) (hu:(#[.int .i64 lf,v,.int .i64 p]:Array Value).setIfInBounds j u=#[.int .i64 lf,v',.int .i64 p']) (ho:aS (wr.setCell ⟨Q,j,none⟩ u) w0.heap.size v' acc) (hB:B≤w0.heap.size):PrJ w0 (wr.setCell ⟨Q,j,none⟩ u) B R Q ns rs lv ts PC lf v' acc p':=by
 have hg:wr.grownBy (wr.setCell ⟨Q,j,none⟩ u) (some Q):=aD (World.grownBy.refl _ _) j u
 have hq:=h.q
 refine⟨h.b.grown hg (PrJ.off h.q h.qb),h.f,h.t,h.w.setCell (by simp only;omega) u,h.k.beyond hg (fun k e=>by injection e with e;omega),h.q,(Below.heap_setCell wr ⟨Q,j,none⟩ u w0.heap.size (by simp only;omega)).trans h.pb,?_,ho⟩
 rw[←hu]
 exact heap_setCell_same wr _ j _ _ u h.qb
theorem PrJ.app (h:PrJ w0 wr B R Q ns rs lv ts PC lf v acc p) (ho:aS w' w0.heap.size v' acc') (hg:wr.grownBy w' v.ownBlock) (hB:B≤w0.heap.size) :
  (w'.heap[Q]?=some (.cells #[.int .i64 lf,v,.int .i64 p] 60 (0,0)))∧PrJ w0 (w'.setCell ⟨Q,1,none⟩ v') B R Q ns rs lv ts PC lf v' acc' p:=by
 have hb':=h.b.grown hg h.o.off9
 have pb':=zaa h.pb h.o (by decide) hg
 have qb':=zaa h.qb h.o (by decide) hg
 have hN:∀k,v.ownBlock=some k→w0.heap.size≤k:=fun k e=>(aH h.o e).1
 have hw':=h.w.grown hg (Nat.le_trans hB h.w.size) (fun k e=>Nat.le_trans hB (hN k e))
 have hk':=h.k.beyond hg hN
 have hq:=h.q
 have hg2:w'.grownBy (w'.setCell ⟨Q,1,none⟩ v') (some Q):=aD (World.grownBy.refl _ _) 1 v'
 exact⟨qb',hb'.grown hg2 (PrJ.off h.q qb'),h.f,h.t,hw'.setCell (by simp only;omega) v',hk'.beyond hg2 (fun k e=>by injection e with e;omega),h.q,(Below.heap_setCell w' ⟨Q,1,none⟩ v' w0.heap.size (by simp only;omega)).trans pb',heap_setCell_same w' _ 1 _ _ v' qb',ho.set_away qb' 1 v'⟩
end
theorem zdo {ns:List (List Int)} {rs:List Gm.Rl} {ts ts':List Gm.Tm} {x:Tok} {z:Int} (h:Gm.symR ns ts x=.ok (ts',z)) (hx:K.Tx x.t) (hf:Gm.Fit ⟨ts,ns,rs,0⟩):((0≤Gm.find ns x.t∧true=true∧ts'=ts∧z = -1-Gm.find ns x.t)∨(Gm.find ns x.t<0∧Gm.sym ts x=.ok (ts',z)))∧Gm.Fit ⟨ts',ns,rs,0⟩:=by
 unfold Gm.symR at h
 split at h
 ·rename_i h0
  injection h with h
  injection h with h1 h2
  subst h1
  exact⟨.inl ⟨h0,rfl,rfl,h2.symm⟩,hf⟩
 ·rename_i h0
  refine⟨.inr ⟨by omega,h⟩,?_⟩
  unfold Gm.sym at h
  split at h
  ·exact Fit.put hf hx h
  ·cases h
theorem zdp {ns:List (List Int)} {rs:List Gm.Rl} {ts ts':List Gm.Tm} {x:Tok} {z:Int} (h:Gm.symP ns ts x=.ok (ts',z)) (hx:K.Tx x.t) (hf:Gm.Fit ⟨ts,ns,rs,0⟩):((0≤Gm.find ns x.t∧false=true∧ts'=ts∧z = -1-Gm.find ns x.t)∨(Gm.find ns x.t<0∧Gm.sym ts x=.ok (ts',z)))∧Gm.Fit ⟨ts',ns,rs,0⟩:=by
 unfold Gm.symP at h
 split at h
 ·cases h
 ·rename_i h0
  refine⟨.inr ⟨by omega,h⟩,?_⟩
  unfold Gm.sym at h
  split at h
  ·exact Fit.put hf hx h
  ·cases h
end Go.Proofs.YtabmfpgpkbndeaaGreat
