/- Part of the proofs over this program: Rtxt, Rwords, Rprint, Rdig, Rcopy, Rcopy2, WalkPrints. -/
import Derived.Test.YtkfelkpilaipnaaGreatDoorKO
namespace Go.Proofs.YtkfelkpilaipnaaGreatDoor
set_option maxRecDepth 100000
set_option maxHeartbeats 40000000
namespace Sh
open Gm
def bl (ws:List (List Int)):List Int:=ws.flatMap fun w=>32::w
theorem zfg (w:List Int) (ws:List (List Int)):bl (w::ws)=32::w++bl ws:=by unfold bl;rw[List.flatMap_cons]
theorem zfY (a b:List (List Int)):bl (a++b)=bl a++bl b:=by unfold bl;rw[List.flatMap_append]
theorem zbj:∀(w:List Int) (ws:List (List Int)),joinW (w::ws)=w++bl ws
 | w,[]=>by simp[joinW,bl]
 | w,v::r=>by rw[joinW,zbj v r,zfg];simp
def levS (n:Int) (ts:List Tm):List Int:=bl ((onLev ts n).map Tm.nm)
def levW (n:Int) (ts:List Tm):Int:=ts.foldl (fun m t=>if t.lv=n then t.wy else m) 0
def rlev (ts:List Tm) (n:Int):List Int:=if levW n ts=1 then wLeft++levS n ts++[10] else if levW n ts=2 then wRight++levS n ts++[10] else if levW n ts=3 then wNon++levS n ts++[10] else []
theorem ze1 (n:Int) {l:List Tm} (k:Nat) (h:k<l.length):onLev (l.take (k+1)) n=if l[k].lv=n then onLev (l.take k) n++[l[k]] else onLev (l.take k) n:=by
 unfold onLev
 rw[List.take_succ_eq_append_getElem h,List.filter_append]
 by_cases e:l[k].lv=n
 ·rw[if_pos e,List.filter_cons,if_pos (by simpa using e)];rfl
 ·rw[if_neg e,List.filter_cons,if_neg (by simpa using e)];simp
theorem levS_take (n:Int) {l:List Tm} (k:Nat) (h:k<l.length):levS n (l.take (k+1))=if l[k].lv=n then levS n (l.take k)++32::l[k].nm else levS n (l.take k):=by
 unfold levS
 rw[ze1 n k h]
 split
 ·rw[List.map_append,zfY];simp[bl]
 ·rfl
theorem levW_take (n:Int) {l:List Tm} (k:Nat) (h:k<l.length):levW n (l.take (k+1))=if l[k].lv=n then l[k].wy else levW n (l.take k):=by
 unfold levW
 rw[List.take_succ_eq_append_getElem h,List.foldl_append]
 rfl
theorem zhX {n:Int}:∀(ts:List Tm),onLev ts n=[]→levW n ts=0:=by
 intro ts h
 have key:∀(ts:List Tm) (m:Int),(∀t∈ts,t.lv≠n)→ts.foldl (fun m t=>if t.lv=n then t.wy else m) m=m:=by
  intro ts
  induction ts with
  | nil=>intro m _;rfl
  | cons t r ih=>intro m hm;rw[List.foldl_cons,if_neg (hm t (by simp))];exact ih m (fun x hx=>hm x (by simp[hx]))
 refine key ts 0 (fun t ht e=>?_)
 unfold onLev at h
 have:t∈ts.filter (fun t=>t.lv==n):=List.mem_filter.2 ⟨ht,by simpa using e⟩
 rw[h]at this;cases this
theorem zhW {n w:Int}:∀(ts:List Tm),(∃t∈ts,t.lv=n)→(∀t∈ts,t.lv=n→t.wy=w)→levW n ts=w:=by
 intro ts hs hw
 have key:∀(ts:List Tm) (m:Int),(∀t∈ts,t.lv=n→t.wy=w)→(m=w ∨ ∃t∈ts,t.lv=n)→ts.foldl (fun m t=>if t.lv=n then t.wy else m) m=w:=by
  intro ts
  induction ts with
  | nil=>intro m _ h;rcases h with h|⟨t,ht,_⟩;exact h;cases ht
  | cons t r ih =>
   intro m hm h
   rw[List.foldl_cons]
   refine ih _ (fun x hx=>hm x (by simp[hx])) ?_
   by_cases e:t.lv=n
   ·rw[if_pos e];exact .inl (hm t (by simp) e)
   ·rw[if_neg e]
    rcases h with h|⟨x,hx,hl⟩
    ·exact .inl h
    ·rcases List.mem_cons.1 hx with rfl|hx
     ·exact absurd hl e
     ·exact .inr ⟨x,hx,hl⟩
 exact key ts 0 hw (.inr hs)
theorem zht {ts:List Tm} {n:Int} (h:onLev ts n=[]):rlev ts n=[]:=by
 unfold rlev
 rw[zhX ts h,if_neg (by decide),if_neg (by decide),if_neg (by decide)]
theorem zhs {ts:List Tm} {n:Int} {t:Tm} {r:List Tm} (h:onLev ts n=t::r) (hw:t.wy=1∨t.wy=2∨t.wy=3) (ha:∀x∈ts,x.lv=n→x.wy=t.wy):rlev ts n=zaw (level ts n):=by
 have hm:t∈ts.filter (fun t=>t.lv==n):=by unfold onLev at h;rw[h];simp
 obtain⟨m1,m2⟩:=List.mem_filter.1 hm
 have e:levW n ts=t.wy:=zhW ts ⟨t,m1,by simpa using m2⟩ ha
 unfold rlev zaw level levS
 rw[h,e]
 simp only[zbj]
 unfold wayW
 rcases hw with q|q|q <;> rw[q] <;> simp
def rtoks (ts:List Tm):List Int:=ts.flatMap fun t=>wToken++[32]++t.nm++[10]
def rlevs (ts:List Tm) (m:Nat):List Int:=(List.range m).flatMap fun i=>rlev ts ((i+1:Nat):Int)
def rwords (G:Gr) (zs:List Int):List Int:=bl (zs.map (name G))
theorem rwords_take (G:Gr) {l:List Int} (k:Nat) (h:k<l.length):rwords G (l.take (k+1))=rwords G (l.take k)++32::name G l[k]:=by
 unfold rwords
 rw[List.take_succ_eq_append_getElem h,List.map_append,zfY]
 simp[bl]
def rrule (G:Gr) (r:Rl):List Int:=G.ns.getD r.l.toNat []++[32,58]++rwords G r.r++(if r.p=last r.r then [] else [32]++wPrec++[32]++name G r.p)++[32,59,10]
def rtext (G:Gr):List Int:=rtoks G.ts++rlevs G.ts 24++(wStart++[32]++G.ns.getD G.st.toNat []++[10,37,37,10])++G.rs.flatMap (rrule G)
theorem rtoks_take {l:List Tm} (k:Nat) (h:k<l.length):rtoks (l.take (k+1))=rtoks (l.take k)++(wToken++[32]++l[k].nm++[10]):=by
 unfold rtoks
 rw[List.take_succ_eq_append_getElem h,List.flatMap_append,List.flatMap_singleton]
theorem rlevs_succ (ts:List Tm) (m:Nat):rlevs ts (m+1)=rlevs ts m++rlev ts ((m+1:Nat):Int):=by
 unfold rlevs
 rw[List.range_succ,List.flatMap_append,List.flatMap_singleton]
theorem rrules_take (G:Gr) {l:List Rl} (k:Nat) (h:k<l.length):(l.take (k+1)).flatMap (rrule G)=(l.take k).flatMap (rrule G)++rrule G l[k]:=by
 rw[List.take_succ_eq_append_getElem h,List.flatMap_append,List.flatMap_singleton]
theorem zge (G:Gr) (r:Rl):rrule G r=zaw (rule G r):=by
 unfold rrule zaw rule rwords
 rw[zbj,zfg,zfY,zfY]
 by_cases e:r.p=last r.r
 ·rw[if_pos e,if_pos e];simp[bl,wColon,wSemi]
 ·rw[if_neg e,if_neg e];simp[bl,wColon,wSemi]
theorem zgg {G:Gr} (hg:Rt G):rlevs G.ts 24=flat (levels G.ts):=by
 have hT:(top G.ts).toNat≤24:=by
  rcases top_has G.ts with e|⟨t,ht,e⟩
  ·omega
  ·have:=hg.tl t ht;omega
 have h1:∀m,m≤(top G.ts).toNat→rlevs G.ts m=flat ((List.range m).map fun i=>level G.ts ((i+1:Nat):Int)):=by
  intro m
  induction m with
  | zero=>intro _;rfl
  | succ m ih =>
   intro hm
   obtain⟨t,r,e,hw,ha⟩:=level_some hg m (by omega)
   rw[rlevs_succ,ih (by omega),zhs e hw ha,List.range_succ,List.map_append]
   unfold flat
   rw[List.flatMap_append]
   simp
 have h2:∀m,rlevs G.ts ((top G.ts).toNat+m)=rlevs G.ts (top G.ts).toNat:=by
  intro m
  induction m with
  | zero=>rfl
  | succ m ih =>
   rw[←Nat.add_assoc,rlevs_succ,ih,zht,List.append_nil]
   unfold onLev
   rw[List.filter_eq_nil_iff]
   intro t ht
   have:=top_ge G.ts t ht
   simp only[beq_iff_eq]
   omega
 have h3:=h2 (24-(top G.ts).toNat)
 rw[show(top G.ts).toNat+(24-(top G.ts).toNat)=24 by omega]at h3
 rw[h3,h1 _ (Nat.le_refl _)]
 rfl
theorem rtext_eq {G:Gr} (hg:Rt G):rtext G=text G:=by
 unfold rtext text lines
 rw[zgg hg]
 unfold flat
 simp only[List.flatMap_append,List.flatMap_singleton]
 have e1:rtoks G.ts=(tokens G.ts).flatMap zaw:=by
  unfold rtoks tokens
  rw[List.flatMap_map]
  refine congrArg (fun f=>List.flatMap f G.ts) ?_
  funext t
  unfold zaw
  rw[zbj]
  simp[bl]
 have e2:G.rs.flatMap (rrule G)=(G.rs.map (rule G)).flatMap zaw:=by
  rw[List.flatMap_map]
  refine congrArg (fun f=>List.flatMap f G.rs) ?_
  funext r
  exact zge G r
 have e3:zaw [wStart,G.ns.getD G.st.toNat []]++zaw [wMark]=wStart++[32]++G.ns.getD G.st.toNat []++[10,37,37,10]:=by
  unfold zaw
  rw[zbj,zbj]
  simp[bl,wMark]
 rw[e1,e2,←e3]
 simp only[List.append_assoc]
end Sh
end Go.Proofs.YtkfelkpilaipnaaGreatDoor
namespace Go.Proofs.YtkfelkpilaipnaaGreatDoor
set_option maxRecDepth 100000
set_option maxHeartbeats 40000000
open Go.RowKit
theorem aV (a b:List Int) (w:World) (h:a.length+b.length≤9223372036854775807):(Op.stringOp .add (K.str a) (K.str b)).run Tryz.prog w=.ok (.string (K.str (a++b))) w:=by
 have hs:=run_string_add_sum (P:=Tryz.prog) w (K.str a) (K.str b) (by rw[K.str_size,K.str_size];exact h)
 rw[K.str_app]at hs
 exact hs
theorem zkR:K.str [32]=⟨#[32]⟩:=by decide
theorem zhu (A:Option Addr) (c B:Nat) (zs:List Int) (w:World) (hr:RdI w B A zs) (hl:zs.length≤9223372036854775807) :
  Calls Tryz.prog 24 #[.slice A zs.length c] w fun e w'=>e=.returned (.int .i64 (Sh.last zs))∧w'=w:=by
 have HR:=aA hr
 clear hr
 go_enter Tryz.func24,Tryz.ntmps24
 go_wp2
 go_loopw [3,4] (fun vn vi wr=>∃(k:Nat),k≤zs.length∧vi=.int .i64 k∧vn=.int .i64 (Sh.last (zs.take k))∧w=wr) (fun _ vi _=>zs.length-(intOf vi).toNat)
 case atStart=>exact⟨0,Nat.zero_le _,rfl,rfl,rfl⟩
 case round =>
  obtain⟨k,hk,rfl,rfl,rfl⟩:=hrel
  by_cases hlt:k<zs.length
  ·obtain⟨g,o,rfl,_,hc⟩:=HR.out (by omega)
   have k0:=hc k hlt
   have HN:=aA (Sh.last_take k hlt)
   rw[L.gd_lt hlt]at k0
   clear hc
   generalize Sh.last (zs.take k)=a at *
   generalize zs[k]=z at *
   by_cases hz:0≤z
   ·have HE:=aA (HN.out.trans (if_pos hz))
    go_wp2
    go_roundw
    case rel=>exact⟨k+1,by omega,by go_num,by rw[HE.out],trivial⟩
    case measure=>simp[intOf];omega
   ·have HE:=aA (HN.out.trans (if_neg hz))
    go_wp2
    go_roundw
    case rel=>exact⟨k+1,by omega,by go_num,by rw[HE.out],trivial⟩
    case measure=>simp[intOf];omega
  ·obtain rfl:k=zs.length:=by omega
   rw[List.take_length]
   go_wp2
   go_ret
   exact⟨rfl,rfl⟩
theorem zga (v:Value) (G:Gm.Gr) (B:Nat) (A:Option Addr) (c:Nat) (zs:List Int) (w:World) (hg:bC w B v G) (hB:B≤w.heap.size) (hr:RdI w B A zs) (hz:∀z∈zs,Gm.In z) (hl:zs.length≤1000) (hn:∀z∈zs,(Gm.name G z).length≤1000) :
  Calls Tryz.prog 23 #[v,.slice A zs.length c] w fun e w'=>e=.returned (.string (K.str (Sh.rwords G zs)))∧Below w.heap.size w w':=by
 have HG:=aA hg
 obtain⟨AT,cT,AN,cN,AR,cR,rfl,_,_,_,_,_,_⟩:=hg
 have HR:=aA hr
 have HZ:=aA (fun(i:Nat) (hi:i<zs.length)=>And.intro (hz _ (List.getElem_mem hi)) (hn _ (List.getElem_mem hi)))
 have HB0:=aA hB
 obtain⟨w1,hw1⟩:∃y,y=w.alloc (.cells #[.slice AT G.ts.length cT,.slice AN G.ns.length cN,.slice AR G.rs.length cR,.int .i64 G.st] 26):=⟨_,rfl⟩
 have HB1:Hid (Below w.heap.size w w1):=aA (by rw[hw1];exact(Below.refl _ _).alloc (Nat.le_refl _) _)
 have HX1:Hid (w1.heap[w.heap.size]?=some (.cells #[.slice AT G.ts.length cT,.slice AN G.ns.length cN,.slice AR G.rs.length cR,.int .i64 G.st] 26 (0,0))):=aA (by rw[hw1];exact heap_alloc_new w _)
 have hd1:w.heap.size<w1.heap.size:=(Array.getElem?_eq_some_iff.1 HX1.out).1
 clear hr hz hn
 go_enter Tryz.func23,Tryz.ntmps23
 go_wp2_with fail
 rw[←hw1]
 clear hw1
 go_loopw [5,6] (fun vs vi wr=>∃(k:Nat) (s:ByteArray),k≤zs.length∧vi=.int .i64 k∧vs=.string s∧s=K.str (Sh.rwords G (zs.take k))∧(Sh.rwords G (zs.take k)).length≤1001*k∧Hid (Below w1.heap.size w1 wr)) (fun _ vi _=>zs.length-(intOf vi).toNat)
 case atStart=>exact⟨0,_,Nat.zero_le _,rfl,rfl,by simp only[List.take_zero,Sh.rwords,Sh.bl,List.map_nil,List.flatMap_nil];rfl,by simp[Sh.rwords,Sh.bl],aA (Below.refl _ _)⟩
 case round =>
  obtain⟨k,s,hk,rfl,rfl,hs,hsl,HBW⟩:=hrel
  have HSL:=aA hsl
  have HS:=aA hs
  clear hsl
  by_cases hlt:k<zs.length
  ·obtain⟨g,o,rfl,hgB,hc⟩:=HR.out (by omega)
   have HWB:=aA (HB1.out.trans (HBW.out.mono HB1.out.size))
   have k0:=(HWB.out.cell (p:=⟨g,o+k,none⟩) (by have:=HB0.out;simp only;omega)).trans (hc k hlt)
   rw[L.gd_lt hlt]at k0
   have hws:=HBW.out.size
   have hgs:g<wr.heap.size:=by have:=HB0.out;omega
   have HN:=aA (Sh.rwords_take G k hlt)
   obtain⟨z1,z2⟩:=HZ.out k hlt
   have HNA:=aA (fun(x:World) (h:Below wr.heap.size wr x)=>zgf _ G B zs[k] z1 x (HG.out.below (HWB.out.trans (h.mono HWB.out.size)) HB0.out) (Nat.le_trans HB0.out (Nat.le_trans HWB.out.size h.size)))
   have A1:=fun x=>aV (Sh.rwords G (zs.take k)) [32] x (by have:=HSL.out;simp;omega)
   have A2:=fun x=>aV (Sh.rwords G (zs.take k)++[32]) (Gm.name G zs[k]) x (by have:=HSL.out;simp;omega)
   rw[zkR,←hs]at A1
   have HE:Hid (Sh.rwords G (zs.take k)++[32]++Gm.name G zs[k]=Sh.rwords G (zs.take (k+1))):=aA (by rw[HN.out];simp)
   have HEL:Hid ((Sh.rwords G (zs.take (k+1))).length≤1001*(k+1)):=aA (by rw[HN.out];have:=HSL.out;simp;omega)
   rw[HE.out]at A2
   have hx0:=HX1.out
   have x0:=cell_of_row w1 _ 0 _ _ _ hx0
   have x1:=cell_of_row w1 _ 1 _ _ _ hx0
   have x2:=cell_of_row w1 _ 2 _ _ _ hx0
   have x3:=cell_of_row w1 _ 3 _ _ _ hx0
   have Q0:=fun y:Calm.On wr.heap.size wr=>((HBW.out.trans (y.2.mono hws)).cell (p:=⟨w.heap.size,0,none⟩) hd1).trans x0
   have Q1:=fun y:Calm.On wr.heap.size wr=>((HBW.out.trans (y.2.mono hws)).cell (p:=⟨w.heap.size,1,none⟩) hd1).trans x1
   have Q2:=fun y:Calm.On wr.heap.size wr=>((HBW.out.trans (y.2.mono hws)).cell (p:=⟨w.heap.size,2,none⟩) hd1).trans x2
   have Q3:=fun y:Calm.On wr.heap.size wr=>((HBW.out.trans (y.2.mono hws)).cell (p:=⟨w.heap.size,3,none⟩) hd1).trans x3
   have K0:=fun y:Calm.On wr.heap.size wr=>(y.2.cell (p:=⟨g,o+k,none⟩) hgs).trans k0
   simp only[List.getElem?_toArray,List.getElem?_cons_zero,List.getElem?_cons_succ]at Q0 Q1 Q2 Q3
   clear hc hx0 x0 x1 x2 x3 z1 z2 hs k0
   generalize zs[k]=z at *
   generalize K.str (Sh.rwords G (zs.take k)++[32])=s1 at *
   generalize hs2:K.str (Sh.rwords G (zs.take (k+1)))=s2 at *
   have HS2:=aA hs2
   clear hs2
   generalize K.str (Gm.name G z)=nz at *
   go_wp2_with fail
   refine CalmN.region_tree (fun x=>∃y:Calm.On wr.heap.size wr,x=y.1) (.one [0,1,2,3,4,5,6] 7 (.fin [8,9])) (by kernel_rfl) (by kernel_rfl) (fun _ _ d _ _ h=>by cases d <;> exact h) ⟨⟨wr.drew,aB (Below.refl _ _) 1⟩,rfl⟩ ?_
   simp only[CalmN.wpT,CalmN.wpSt,CalmN.pickOps,List.getElem?_toArray,List.getElem?_cons_zero,List.getElem?_cons_succ]
   repeat (go_big_quiet_step (fail))
   refine wpQuiet_nil ?_
   clear Q0 Q1 Q2 Q3 K0 A1
   intro KK hKK
   rw[if_pos (by rfl)]
   go_wp2_with fail
   refine(HNA.out wr.drew (aB (Below.refl _ _) 1)).mono ?_;rintro _ w2 ⟨rfl,hb2⟩
   have HB2:=aA ((aB (Below.refl wr.heap.size wr) 1).trans hb2)
   clear hb2
   go_wp2_with fail
   refine hKK _ _ ⟨⟨w2,HB2.out⟩,rfl⟩ (fun x=>∃y:Calm.On wr.heap.size wr,x=y.1) (fun _ h=>h) ⟨⟨w2,HB2.out⟩,rfl⟩ ?_
   repeat (go_big_quiet_step (fail))
   refine wpQuiet_nil ?_
   clear hKK A2
   go_wp2
   go_roundw
   case rel=>exact⟨k+1,s2,hlt,by go_num,rfl,HS2.out.symm,HEL.out,aA (HBW.out.trans (HB2.out.mono hws))⟩
   case measure=>simp[intOf];omega
  ·obtain rfl:k=zs.length:=by omega
   rw[List.take_length]at HS
   rw[HS.out]
   go_wp2
   go_ret
   exact⟨rfl,HB1.out.trans (HBW.out.mono HB1.out.size)⟩
theorem ziK:K.str Sh.wLeft=⟨#[37,108,101,102,116]⟩:=by decide
theorem zha:K.str Sh.wRight=⟨#[37,114,105,103,104,116]⟩:=by decide
theorem zj7:K.str Sh.wNon=⟨#[37,110,111,110,97,115,115,111,99]⟩:=by decide
theorem zkS:K.str [10]=⟨#[10]⟩:=by decide
theorem zcd:K.str []=⟨#[]⟩:=by decide
theorem zd8 (v:Value) (G:Gm.Gr) (B:Nat) (n:Int) (w:World) (hg:bC w B v G) (hB:B≤w.heap.size) (hl:G.ts.length≤1000) (hn:∀t∈G.ts,t.nm.length≤1000) :
  Calls Tryz.prog 22 #[v,.int .i64 n] w fun e w'=>e=.returned (.string (K.str (Sh.rlev G.ts n)))∧Below w.heap.size w w':=by
 obtain⟨AT,cT,AN,cN,AR,cR,rfl,_,_,_,ht,_,_⟩:=hg
 have HT:=aA ht
 have HZ:=aA (fun(i:Nat) (hi:i<G.ts.length)=>hn _ (List.getElem_mem hi))
 have HB0:=aA hB
 obtain⟨w1,hw1⟩:∃y,y=w.alloc (.cells #[.slice AT G.ts.length cT,.slice AN G.ns.length cN,.slice AR G.rs.length cR,.int .i64 G.st] 26):=⟨_,rfl⟩
 have HB1:Hid (Below w.heap.size w w1):=aA (by rw[hw1];exact(Below.refl _ _).alloc (Nat.le_refl _) _)
 have HX1:Hid (w1.heap[w.heap.size]?=some (.cells #[.slice AT G.ts.length cT,.slice AN G.ns.length cN,.slice AR G.rs.length cR,.int .i64 G.st] 26 (0,0))):=aA (by rw[hw1];exact heap_alloc_new w _)
 have hd1:w.heap.size<w1.heap.size:=(Array.getElem?_eq_some_iff.1 HX1.out).1
 have x0:w1.cell? ⟨w.heap.size,0,none⟩=some (.slice AT G.ts.length cT):=by rw[cell_of_row w1 _ 0 _ _ _ HX1.out];rfl
 have HXC:=aA x0
 clear ht hn x0
 go_enter Tryz.func22,Tryz.ntmps22
 go_wp2_with fail
 rw[←hw1]
 clear hw1
 go_loopw [5,6,7] (fun vs vw vi wr=>∃(k:Nat) (s:ByteArray),k≤G.ts.length∧vi=.int .i64 k∧vs=.string s∧vw=.int .i64 (Sh.levW n (G.ts.take k))∧s=K.str (Sh.levS n (G.ts.take k))∧(Sh.levS n (G.ts.take k)).length≤1001*k∧Hid (Below w1.heap.size w1 wr)) (fun _ _ vi _=>G.ts.length-(intOf vi).toNat)
 case atStart=>exact⟨0,_,Nat.zero_le _,rfl,rfl,rfl,by rw[List.take_zero];exact zcd.symm,by rw[List.take_zero];show([]:List Int).length≤_;simp,aA (Below.refl _ _)⟩
 case round =>
  obtain⟨k,s,hk,rfl,rfl,rfl,hs,hsl,HBW⟩:=hrel
  have HSL:=aA hsl
  have HS:=aA hs
  have hws:=HBW.out.size
  have x0:=(HBW.out.cell (p:=⟨w.heap.size,0,none⟩) hd1).trans HXC.out
  clear hsl
  by_cases hlt:k<G.ts.length
  ·obtain⟨g,o,rfl,hgB,hc⟩:=HT.out (by omega)
   have HWB:=aA (HB1.out.trans (HBW.out.mono HB1.out.size))
   obtain⟨k0,k1,k2⟩:=hc k hlt
   have hgw:g<w.heap.size:=by have:=HB0.out;omega
   have k0:=(HWB.out.cell (p:=⟨g,o+k*3,none⟩) hgw).trans k0
   have k1:=(HWB.out.cell (p:=⟨g,o+k*3+1,none⟩) hgw).trans k1
   have k2:=(HWB.out.cell (p:=⟨g,o+k*3+2,none⟩) hgw).trans k2
   have hgs:g<wr.heap.size:=by omega
   have HN:=aA (Sh.levS_take n k hlt)
   have HW:=aA (Sh.levW_take n k hlt)
   have hz:=HZ.out k hlt
   have A1:=fun x=>aV (Sh.levS n (G.ts.take k)) [32] x (by have:=HSL.out;simp;omega)
   have A2:=fun x=>aV (Sh.levS n (G.ts.take k)++[32]) G.ts[k].nm x (by have:=HSL.out;simp;omega)
   rw[zkR,←hs]at A1
   have HZL:=aA hz
   clear hc hz
   by_cases he:G.ts[k].lv=n
   ·have HE:Hid (Sh.levS n (G.ts.take k)++[32]++G.ts[k].nm=Sh.levS n (G.ts.take (k+1))):=aA (by rw[HN.out,if_pos he];simp)
    have HW2:Hid (Sh.levW n (G.ts.take (k+1))=G.ts[k].wy):=aA (by rw[HW.out,if_pos he])
    have HEL:Hid ((Sh.levS n (G.ts.take (k+1))).length≤1001*(k+1)):=aA (by rw[HN.out,if_pos he];have:=HSL.out;have:=HZL.out;simp;omega)
    rw[HE.out]at A2
    have eb:(G.ts[k].lv==n)=true:=beq_iff_eq.2 he
    clear he hs
    generalize G.ts[k].lv=lvk at *
    generalize G.ts[k].wy=wyk at *
    generalize K.str (Sh.levS n (G.ts.take k)++[32])=s1 at *
    generalize hs2:K.str (Sh.levS n (G.ts.take (k+1)))=s2 at *
    have HS2:=aA hs2
    clear hs2
    generalize K.str G.ts[k].nm=nz at *
    generalize Sh.levW n (G.ts.take k)=wk at *
    go_wp2_with fail
    go_quiet (fail)
    go_wp2
    go_roundw
    case rel=>exact⟨k+1,s2,hlt,by go_num,rfl,by rw[HW2.out],HS2.out.symm,HEL.out,aA (aB HBW.out _)⟩
    case measure=>simp[intOf];omega
   ·have HE:Hid (Sh.levS n (G.ts.take (k+1))=Sh.levS n (G.ts.take k)):=aA (by rw[HN.out,if_neg he])
    have HW2:Hid (Sh.levW n (G.ts.take (k+1))=Sh.levW n (G.ts.take k)):=aA (by rw[HW.out,if_neg he])
    have eb:(G.ts[k].lv==n)=false:=beq_eq_false_iff_ne.2 he
    clear he hs A1 A2
    generalize G.ts[k].lv=lvk at *
    generalize Sh.levW n (G.ts.take k)=wk at *
    go_wp2
    go_roundw
    case rel=>exact⟨k+1,s,hlt,by go_num,rfl,by rw[HW2.out],by rw[HE.out];exact HS.out,by rw[HE.out];have:=HSL.out;omega,HBW⟩
    case measure=>simp[intOf];omega
  ·obtain rfl:k=G.ts.length:=by omega
   rw[List.take_length]at HS HSL hs
   rw[List.take_length]
   have HR:Hid (Sh.rlev G.ts n=if Sh.levW n G.ts=1 then Sh.wLeft++Sh.levS n G.ts++[10] else if Sh.levW n G.ts=2 then Sh.wRight++Sh.levS n G.ts++[10] else if Sh.levW n G.ts=3 then Sh.wNon++Sh.levS n G.ts++[10] else []):=aA rfl
   have A1:=fun x=>aV Sh.wLeft (Sh.levS n G.ts) x (by have:=HSL.out;simp[Sh.wLeft];omega)
   have A2:=fun x=>aV (Sh.wLeft++Sh.levS n G.ts) [10] x (by have:=HSL.out;simp[Sh.wLeft];omega)
   have A3:=fun x=>aV Sh.wRight (Sh.levS n G.ts) x (by have:=HSL.out;simp[Sh.wRight];omega)
   have A4:=fun x=>aV (Sh.wRight++Sh.levS n G.ts) [10] x (by have:=HSL.out;simp[Sh.wRight];omega)
   have A5:=fun x=>aV Sh.wNon (Sh.levS n G.ts) x (by have:=HSL.out;simp[Sh.wNon];omega)
   have A6:=fun x=>aV (Sh.wNon++Sh.levS n G.ts) [10] x (by have:=HSL.out;simp[Sh.wNon];omega)
   rw[ziK,←hs]at A1
   rw[zha,←hs]at A3
   rw[zj7,←hs]at A5
   rw[zkS]at A2 A4 A6
   generalize Sh.levW n G.ts=wk at *
   clear hs
   by_cases e1:wk=1
   ·subst e1
    have HR2:=aA (HR.out.trans (if_pos rfl))
    generalize h2:K.str (Sh.wLeft++Sh.levS n G.ts++[10])=s2 at *
    have H2:=aA h2
    clear h2
    generalize K.str (Sh.wLeft++Sh.levS n G.ts)=s1 at *
    clear A3 A4 A5 A6
    go_wp2
    go_ret
    exact⟨by rw[HR2.out,H2.out];rfl,HB1.out.trans (HBW.out.mono HB1.out.size)⟩
   ·have HR2:=aA (HR.out.trans (if_neg e1))
    by_cases e2:wk=2
    ·subst e2
     have HR3:=aA (HR2.out.trans (if_pos rfl))
     generalize h2:K.str (Sh.wRight++Sh.levS n G.ts++[10])=s2 at *
     have H2:=aA h2
     clear h2
     generalize K.str (Sh.wRight++Sh.levS n G.ts)=s1 at *
     clear A1 A2 A5 A6
     go_wp2
     go_ret
     exact⟨by rw[HR3.out,H2.out];rfl,HB1.out.trans (HBW.out.mono HB1.out.size)⟩
    ·have HR3:=aA (HR2.out.trans (if_neg e2))
     by_cases e3:wk=3
     ·subst e3
      have HR4:=aA (HR3.out.trans (if_pos rfl))
      generalize h2:K.str (Sh.wNon++Sh.levS n G.ts++[10])=s2 at *
      have H2:=aA h2
      clear h2
      generalize K.str (Sh.wNon++Sh.levS n G.ts)=s1 at *
      clear A1 A2 A3 A4
      go_wp2
      go_ret
      exact⟨by rw[HR4.out,H2.out];rfl,HB1.out.trans (HBW.out.mono HB1.out.size)⟩
     ·have HR4:=aA (HR3.out.trans (if_neg e3))
      have f1:(wk==1)=false:=beq_eq_false_iff_ne.2 e1
      have f2:(wk==2)=false:=beq_eq_false_iff_ne.2 e2
      have f3:(wk==3)=false:=beq_eq_false_iff_ne.2 e3
      clear A1 A2 A3 A4 A5 A6
      go_wp2
      go_ret
      exact⟨by rw[HR4.out,zcd];rfl,HB1.out.trans (HBW.out.mono HB1.out.size)⟩
namespace Sh
open Gm
theorem zjW (ws:List (List Int)) (h:∀w∈ws,w.length≤20):(bl ws).length≤21*ws.length:=by
 induction ws with
 | nil=>simp[bl]
 | cons w r ih =>
  have h1:=h w (by simp)
  have h2:=ih (fun x hx=>h x (by simp[hx]))
  rw[zfg]
  simp only[List.length_append,List.length_cons]at h2 ⊢
  omega
theorem tm_len {G:Gr} (hg:Rt G):∀t∈G.ts,t.nm.length≤20:=fun t ht=>by
 obtain⟨i,hi,rfl⟩:=List.getElem_of_mem ht
 exact zbv (hg.tn i hi)
theorem rlev_len {G:Gr} (hg:Rt G) (n:Int):(rlev G.ts n).length≤600:=by
 have h1:(levS n G.ts).length≤504:=by
  have h2:=zjW ((onLev G.ts n).map Tm.nm) (fun w hw=>by
   obtain⟨t,ht,rfl⟩:=List.mem_map.1 hw
   exact tm_len hg t (List.mem_filter.1 ht).1)
  have h3:(onLev G.ts n).length≤G.ts.length:=List.length_filter_le _ _
  have:=hg.t24
  unfold levS
  rw[List.length_map]at h2
  omega
 unfold rlev
 split
 ·simp[wLeft];omega
 ·split
  ·simp[wRight];omega
  ·split
   ·simp[wNon];omega
   ·simp
theorem rule_of {G:Gr} (hg:Rt G) (i:Nat) (hi:i<G.rs.length):0≤G.rs[i].l∧G.rs[i].l<G.ns.length∧Gm.rule G G.rs[i]=true:=(rules_le G G.rs (-1) hg.rr).2 _ (List.getElem_mem hi)
theorem rwords_len {G:Gr} (hg:Rt G) (i:Nat) (hi:i<G.rs.length):(rwords G G.rs[i].r).length≤126:=by
 obtain⟨h1,_,_,h2,_⟩:=rule_parts (rule_of hg i hi).2.2
 have h3:=zjW (G.rs[i].r.map (name G)) (fun w hw=>by
  obtain⟨z,hz,rfl⟩:=List.mem_map.1 hw
  exact name_len hg z (h2 z hz))
 unfold rwords
 rw[List.length_map]at h3
 omega
theorem non_len {G:Gr} (hg:Rt G) (j:Nat) (hj:j<G.ns.length):G.ns[j].length≤20:=(name_pos (hg.nn j hj).1).2
theorem pname {G:Gr} (j:Nat) (hj:j<G.ts.length):name G (j:Int)=G.ts[j].nm:=by
 have hh:has G (j:Int)=true:=by unfold has;rw[if_pos (by omega)];simpa using hj
 unfold name
 rw[if_pos hh,if_pos (by omega)]
 exact zaM j hj
end Sh
theorem ziL:K.str (Sh.wToken++[32])=⟨#[37,116,111,107,101,110,32]⟩:=by decide
theorem ziM:K.str (Sh.wStart++[32])=⟨#[37,115,116,97,114,116,32]⟩:=by decide
theorem zkb:K.str [10,37,37,10]=⟨#[10,37,37,10]⟩:=by decide
theorem ziO:K.str [32,58]=⟨#[32,58]⟩:=by decide
theorem zka:K.str ([32]++Sh.wPrec++[32])=⟨#[32,37,112,114,101,99,32]⟩:=by decide
theorem zhd:K.str [32,59,10]=⟨#[32,59,10]⟩:=by decide
theorem zcW (v:Value) (G:Gm.Gr) (B:Nat) (w:World) (hg:bC w B v G) (hf:Gm.Fit G) (hB:B≤w.heap.size) :
  Calls Tryz.prog 10 #[v] w fun e w'=>e=.returned (.tuple #[.string (K.str (Sh.pr G).1),.int .i64 (Sh.pr G).2])∧Below w.heap.size w w':=by
 have HG:=aA hg
 obtain⟨AT,cT,AN,cN,AR,cR,rfl,_,_,_,ht,hn,hr⟩:=hg
 have HT:=aA ht
 have HN:=aA hn
 have HR:=aA hr
 have HB0:=aA hB
 have HRI:=aA (fun(x:World) (h:Below w.heap.size w x)=>zcV _ G B x (HG.out.below h hB) hf (Nat.le_trans hB h.size))
 obtain⟨w1,hw1⟩:∃y,y=w.alloc (.cells #[.slice AT G.ts.length cT,.slice AN G.ns.length cN,.slice AR G.rs.length cR,.int .i64 G.st] 26):=⟨_,rfl⟩
 have HB1:Hid (Below w.heap.size w w1):=aA (by rw[hw1];exact(Below.refl _ _).alloc (Nat.le_refl _) _)
 have HX1:Hid (w1.heap[w.heap.size]?=some (.cells #[.slice AT G.ts.length cT,.slice AN G.ns.length cN,.slice AR G.rs.length cR,.int .i64 G.st] 26 (0,0))):=aA (by rw[hw1];exact heap_alloc_new w _)
 have hd1:w.heap.size<w1.heap.size:=(Array.getElem?_eq_some_iff.1 HX1.out).1
 have HF:=aA hf
 unfold Sh.pr
 by_cases hri:Gm.right G=true
 ·rw[hri]at HRI
  rw[if_pos hri]
  have HRT:=aA (Gm.rt_of hri)
  have HPR:Hid (Sh.rtext G=Sh.text G):=aA (Sh.rtext_eq HRT.out)
  have X0:=aA (show w1.cell? ⟨w.heap.size,0,none⟩=some (.slice AT G.ts.length cT) by rw[cell_of_row w1 _ 0 _ _ _ HX1.out];rfl)
  have X1:=aA (show w1.cell? ⟨w.heap.size,1,none⟩=some (.slice AN G.ns.length cN) by rw[cell_of_row w1 _ 1 _ _ _ HX1.out];rfl)
  have X2:=aA (show w1.cell? ⟨w.heap.size,2,none⟩=some (.slice AR G.rs.length cR) by rw[cell_of_row w1 _ 2 _ _ _ HX1.out];rfl)
  have X3:=aA (show w1.cell? ⟨w.heap.size,3,none⟩=some (.int .i64 G.st) by rw[cell_of_row w1 _ 3 _ _ _ HX1.out];rfl)
  have c0:=X0.out
  have c1:=X1.out
  have c2:=X2.out
  have c3:=X3.out
  have h24:=HRT.out.t24
  have h16:=HRT.out.n1
  have h40:=HRT.out.r1
  have HRC:=aA (HRI.out w1 HB1.out)
  clear ht hn hr hri HRI hf hB
  go_enter Tryz.func10,Tryz.ntmps10
  go_wp2_with fail
  rw[←hw1]
  clear hw1
  go_wp2_with fail
  refine HRC.out.mono ?_;rintro _ w2 ⟨rfl,hb2⟩
  have HB2:=aA hb2
  clear hb2 HRC c0 c1 c2 c3
  go_wp2
  go_loopw [4,5] (fun vs vi wr=>∃(k:Nat) (s:ByteArray),k≤G.ts.length∧vi=.int .i64 k∧vs=.string s∧s=K.str (Sh.rtoks (G.ts.take k))∧(Sh.rtoks (G.ts.take k)).length≤28*k∧w2=wr) (fun _ vi _=>G.ts.length-(intOf vi).toNat)
  case atStart=>exact⟨0,_,Nat.zero_le _,rfl,rfl,zcd.symm,by simp[Sh.rtoks],rfl⟩
  case round =>
   obtain⟨k,s,hk,rfl,rfl,hs,hsl,rfl⟩:=hrel
   have HSL:=aA hsl
   have HS:=aA hs
   have c0:=(HB2.out.cell (p:=⟨w.heap.size,0,none⟩) hd1).trans X0.out
   have hw2:=HB2.out.size
   clear hsl
   by_cases hlt:k<G.ts.length
   ·obtain⟨g,o,rfl,hgB,hc⟩:=HT.out (by omega)
    have hgw:g<w.heap.size:=by have:=HB0.out;omega
    have k0:=((HB1.out.trans (HB2.out.mono HB1.out.size)).cell (p:=⟨g,o+k*3,none⟩) hgw).trans (hc k hlt).1
    have hgs:g<w2.heap.size:=by omega
    have HN1:=aA (Sh.rtoks_take k hlt)
    have HZL:=aA (Sh.tm_len HRT.out _ (List.getElem_mem hlt))
    have A1:=fun x=>aV (Sh.rtoks (G.ts.take k)) (Sh.wToken++[32]) x (by have:=HSL.out;simp[Sh.wToken];omega)
    have A2:=fun x=>aV (Sh.rtoks (G.ts.take k)++(Sh.wToken++[32])) G.ts[k].nm x (by have:=HSL.out;have:=HZL.out;simp[Sh.wToken];omega)
    have A3:=fun x=>aV (Sh.rtoks (G.ts.take k)++(Sh.wToken++[32])++G.ts[k].nm) [10] x (by have:=HSL.out;have:=HZL.out;simp[Sh.wToken];omega)
    rw[ziL,←hs]at A1
    rw[zkS]at A3
    have HE:Hid (Sh.rtoks (G.ts.take k)++(Sh.wToken++[32])++G.ts[k].nm++[10]=Sh.rtoks (G.ts.take (k+1))):=aA (by rw[HN1.out];simp)
    have HEL:Hid ((Sh.rtoks (G.ts.take (k+1))).length≤28*(k+1)):=aA (by rw[HN1.out];have:=HSL.out;have:=HZL.out;simp[Sh.wToken];omega)
    rw[HE.out]at A3
    clear hc hs
    generalize K.str (Sh.rtoks (G.ts.take k)++(Sh.wToken++[32])++G.ts[k].nm)=s2 at *
    generalize K.str (Sh.rtoks (G.ts.take k)++(Sh.wToken++[32]))=s1 at *
    generalize hs3:K.str (Sh.rtoks (G.ts.take (k+1)))=s3 at *
    have HS3:=aA hs3
    clear hs3
    generalize K.str G.ts[k].nm=nz at *
    go_wp2
    go_roundw
    case rel=>exact⟨k+1,s3,hlt,by go_num,rfl,HS3.out.symm,HEL.out,trivial⟩
    case measure=>simp[intOf];omega
   ·obtain rfl:k=G.ts.length:=by omega
    rw[List.take_length]at HS HSL
    clear hs
    go_wp2
    go_loopw [4,6] (fun vs vi wr=>∃(m:Nat) (t:ByteArray),m≤24∧vi=.int .i64 ((m+1:Nat):Int)∧vs=.string t∧t=K.str (Sh.rtoks G.ts++Sh.rlevs G.ts m)∧(Sh.rtoks G.ts++Sh.rlevs G.ts m).length≤1000+600*m∧Hid (Below w2.heap.size w2 wr)) (fun _ vi _=>25-(intOf vi).toNat)
    case atStart=>exact⟨0,s,Nat.zero_le _,rfl,rfl,by rw[HS.out];simp[Sh.rlevs],by have:=HSL.out;simp[Sh.rlevs];omega,aA (Below.refl _ _)⟩
    case round =>
     obtain⟨m,t,hm,rfl,rfl,hs,hsl,HBW⟩:=hrel
     have HSL2:=aA hsl
     have HS2:=aA hs
     have HW12:=aA (HB2.out.trans (HBW.out.mono HB2.out.size))
     have HWW:=aA (HB1.out.trans (HW12.out.mono HB1.out.size))
     have c0:=(HW12.out.cell (p:=⟨w.heap.size,0,none⟩) hd1).trans X0.out
     have c1:=(HW12.out.cell (p:=⟨w.heap.size,1,none⟩) hd1).trans X1.out
     have c2:=(HW12.out.cell (p:=⟨w.heap.size,2,none⟩) hd1).trans X2.out
     have c3:=(HW12.out.cell (p:=⟨w.heap.size,3,none⟩) hd1).trans X3.out
     have hws:=HW12.out.size
     clear hsl
     by_cases hlt:m<24
     ·have HLV:=aA (fun(x:World) (h:Below wr.heap.size wr x)=>zd8 _ G B ((m+1:Nat):Int) x (HG.out.below (HWW.out.trans (h.mono HWW.out.size)) HB0.out) (Nat.le_trans HB0.out (Nat.le_trans HWW.out.size h.size)) (by omega) (fun t ht=>by have:=Sh.tm_len HRT.out t ht;omega))
      have HL1:=aA (Sh.rlev_len HRT.out ((m+1:Nat):Int))
      have A1:=fun x=>aV (Sh.rtoks G.ts++Sh.rlevs G.ts m) (Sh.rlev G.ts ((m+1:Nat):Int)) x (by have:=HSL2.out;have:=HL1.out;omega)
      have HE:Hid (Sh.rtoks G.ts++Sh.rlevs G.ts m++Sh.rlev G.ts ((m+1:Nat):Int)=Sh.rtoks G.ts++Sh.rlevs G.ts (m+1)):=aA (by rw[Sh.rlevs_succ];simp)
      have HEL:Hid ((Sh.rtoks G.ts++Sh.rlevs G.ts (m+1)).length≤1000+600*(m+1)):=aA (by rw[←HE.out,List.length_append];have:=HSL2.out;have:=HL1.out;omega)
      rw[HE.out,←hs]at A1
      clear hs
      generalize hs3:K.str (Sh.rtoks G.ts++Sh.rlevs G.ts (m+1))=s3 at *
      have HS3:=aA hs3
      clear hs3
      generalize K.str (Sh.rlev G.ts ((m+1:Nat):Int))=nz at *
      have HC:=aA (HLV.out wr (Below.refl _ _))
      go_wp2_with fail
      refine HC.out.mono ?_;rintro _ w4 ⟨rfl,hb4⟩
      have HB4:=aA (HBW.out.trans (hb4.mono HBW.out.size))
      clear hb4 HC HLV c0 c1 c2 c3
      go_wp2
      go_roundw
      case rel=>exact⟨m+1,s3,hlt,by go_num,rfl,HS3.out.symm,HEL.out,HB4⟩
      case measure=>simp[intOf];omega
     ·obtain rfl:m=24:=by omega
      rw[show((24+1:Nat):Int)=(25:Int) from rfl]
      obtain⟨js,hjs⟩:∃j:Nat,G.st=(j:Int):=⟨_,(Int.toNat_of_nonneg HRT.out.s0.1).symm⟩
      have hjl:js<G.ns.length:=by have:=HRT.out.s0.2;omega
      obtain⟨gN,oN,rfl,hgN,hcN⟩:=HN.out (by omega)
      have n0:=(HWW.out.cell (p:=⟨gN,oN+js,none⟩) (by have:=HB0.out;simp only;omega)).trans (hcN js hjl)
      have hgNs:gN<wr.heap.size:=by have:=HB0.out;have:=HB2.out.size;omega
      have HNL:=aA (Sh.non_len HRT.out js hjl)
      rw[hjs]at c3
      have A1:=fun x=>aV (Sh.rtoks G.ts++Sh.rlevs G.ts 24) (Sh.wStart++[32]) x (by have:=HSL2.out;simp[Sh.wStart]at this ⊢;omega)
      have A2:=fun x=>aV (Sh.rtoks G.ts++Sh.rlevs G.ts 24++(Sh.wStart++[32])) G.ns[js] x (by have:=HSL2.out;have:=HNL.out;simp[Sh.wStart]at *;omega)
      have A3:=fun x=>aV (Sh.rtoks G.ts++Sh.rlevs G.ts 24++(Sh.wStart++[32])++G.ns[js]) [10,37,37,10] x (by have:=HSL2.out;have:=HNL.out;simp[Sh.wStart]at *;omega)
      rw[ziM,←hs]at A1
      rw[zkb]at A3
      obtain⟨P,hP⟩:∃P,P=Sh.rtoks G.ts++Sh.rlevs G.ts 24++(Sh.wStart++[32])++G.ns[js]++[10,37,37,10]:=⟨_,rfl⟩
      rw[←hP]at A3
      have HPL:Hid (P.length≤16000):=aA (by rw[hP];have:=HSL2.out;have:=HNL.out;simp[Sh.wStart]at *;omega)
      have HPT:Hid (Sh.rtext G=P++G.rs.flatMap (Sh.rrule G)):=aA (by
       rw[hP];unfold Sh.rtext
       rw[show G.ns.getD G.st.toNat []=G.ns[js] by rw[hjs];exact Sh.getD_at _ _ _ hjl]
       simp)
      clear hs hP hjs
      generalize K.str (Sh.rtoks G.ts++Sh.rlevs G.ts 24++(Sh.wStart++[32])++G.ns[js])=s2 at *
      generalize K.str (Sh.rtoks G.ts++Sh.rlevs G.ts 24++(Sh.wStart++[32]))=s1 at *
      generalize hs3:K.str P=s3 at *
      have HS3:=aA hs3
      clear hs3
      generalize K.str G.ns[js]=nz at *
      go_wp2
      clear A1 A2 A3 n0 c0 c1 c2 c3
      go_loopw [4,7] (fun vs vi wr=>∃(k:Nat) (t:ByteArray),k≤G.rs.length∧vi=.int .i64 k∧vs=.string t∧t=K.str (P++(G.rs.take k).flatMap (Sh.rrule G))∧(P++(G.rs.take k).flatMap (Sh.rrule G)).length≤16000+300*k∧Hid (Below w2.heap.size w2 wr)) (fun _ vi _=>G.rs.length-(intOf vi).toNat)
      case atStart=>exact⟨0,s3,Nat.zero_le _,rfl,rfl,by rw[←HS3.out];simp,by have:=HPL.out;simp;omega,HBW⟩
      case round =>
       clear HS2 HSL2 HW12 HWW HBW
       obtain⟨k,t,hk,rfl,rfl,hs,hsl,HBW⟩:=hrel
       have HSL2:=aA hsl
       have HS2:=aA hs
       have HW12:=aA (HB2.out.trans (HBW.out.mono HB2.out.size))
       have HWW:=aA (HB1.out.trans (HW12.out.mono HB1.out.size))
       have c0:=(HW12.out.cell (p:=⟨w.heap.size,0,none⟩) hd1).trans X0.out
       have c1:=(HW12.out.cell (p:=⟨w.heap.size,1,none⟩) hd1).trans X1.out
       have c2:=(HW12.out.cell (p:=⟨w.heap.size,2,none⟩) hd1).trans X2.out
       have c3:=(HW12.out.cell (p:=⟨w.heap.size,3,none⟩) hd1).trans X3.out
       have hws:=HW12.out.size
       clear hsl
       by_cases hlt:k<G.rs.length
       ·obtain⟨g,o,rfl,hgB,hc⟩:=HR.out (by omega)
        obtain⟨r0,⟨A',c',r1,r3,r4,r5⟩,r2⟩:=hc k hlt
        have hgw:g<w.heap.size:=by have:=HB0.out;omega
        have r0:=(HWW.out.cell (p:=⟨g,o+k*3,none⟩) hgw).trans r0
        have r1:=(HWW.out.cell (p:=⟨g,o+k*3+1,none⟩) hgw).trans r1
        have r2:=(HWW.out.cell (p:=⟨g,o+k*3+2,none⟩) hgw).trans r2
        have hgs:g<wr.heap.size:=by have:=HWW.out.size;omega
        obtain⟨l0,l1,hru⟩:=Sh.rule_of HRT.out k hlt
        obtain⟨p1,p2,p3,p4,p5⟩:=Gm.rule_parts hru
        obtain⟨jl,hjl2⟩:∃j:Nat,G.rs[k].l=(j:Int):=⟨_,(Int.toNat_of_nonneg l0).symm⟩
        have hjl3:jl<G.ns.length:=by omega
        have HNL:=aA (Sh.non_len HRT.out jl hjl3)
        have HWL:=aA (Sh.rwords_len HRT.out k hlt)
        have hin:=HF.out.r _ (List.getElem_mem hlt)
        have HNM:Hid (G.ns.getD G.rs[k].l.toNat []=G.ns[jl]):=aA (by rw[hjl2];exact Sh.getD_at _ _ _ hjl3)
        have HRR:=aA (Sh.rrules_take G (l:=G.rs) k hlt)
        have HRD:Hid (Sh.rrule G G.rs[k]=G.ns.getD G.rs[k].l.toNat []++[32,58]++Sh.rwords G G.rs[k].r++(if G.rs[k].p=Sh.last G.rs[k].r then [] else [32]++Sh.wPrec++[32]++Gm.name G G.rs[k].p)++[32,59,10]):=aA rfl
        have HRW5:=aA r5
        have HWD:=aA (fun(x:World) (h:Below w.heap.size w x)=>zga _ G B A' c' G.rs[k].r x (HG.out.below h HB0.out) (Nat.le_trans HB0.out h.size) (r5.below h HB0.out) hin.2.2 (by omega) (fun z hz=>by have:=Sh.name_len HRT.out z (p4 z hz);omega))
        have HLA:=aA (fun(x:World) (h:Below w.heap.size w x)=>zhu A' c' B G.rs[k].r x (r5.below h HB0.out) (by omega))
        have n0:=(HWW.out.cell (p:=⟨gN,oN+jl,none⟩) (by have:=HB0.out;simp only;omega)).trans (hcN jl hjl3)
        have hgNs:gN<wr.heap.size:=by have:=HWW.out.size;have:=HB0.out;omega
        obtain⟨pre,hpre⟩:∃pre,pre=P++(G.rs.take k).flatMap (Sh.rrule G):=⟨_,rfl⟩
        have HPRE:=aA hpre
        rw[←hpre]at HSL2 hs
        have A1:=fun x=>aV pre G.ns[jl] x (by have:=HSL2.out;have:=HNL.out;omega)
        have A2:=fun x=>aV (pre++G.ns[jl]) [32,58] x (by have:=HSL2.out;have:=HNL.out;simp;omega)
        have A3:=fun x=>aV (pre++G.ns[jl]++[32,58]) (Sh.rwords G G.rs[k].r) x (by have:=HSL2.out;have:=HNL.out;have:=HWL.out;simp;omega)
        rw[←hs]at A1
        rw[ziO]at A2
        obtain⟨bs,hbs⟩:∃bs,bs=pre++G.ns[jl]++[32,58]++Sh.rwords G G.rs[k].r:=⟨_,rfl⟩
        rw[←hbs]at A3
        have HBS:=aA hbs
        have HBL:Hid (bs.length≤16000+300*k+148):=aA (by rw[hbs];have:=HSL2.out;have:=HNL.out;have:=HWL.out;simp;omega)
        have hsz4:(wr.alloc (.cells #[.int .i64 G.rs[k].l,.slice A' G.rs[k].r.length c',.int .i64 G.rs[k].p] 45)).heap.size=wr.heap.size+1:=by simp
        have hb4:Below wr.heap.size wr (wr.alloc (.cells #[.int .i64 G.rs[k].l,.slice A' G.rs[k].r.length c',.int .i64 G.rs[k].p] 45)):=(Below.refl _ _).alloc (Nat.le_refl _) _
        obtain⟨w4,hw4⟩:∃x,x=wr.alloc (.cells #[.int .i64 G.rs[k].l,.slice A' G.rs[k].r.length c',.int .i64 G.rs[k].p] 45):=⟨_,rfl⟩
        have HD4:Hid (w4.heap[wr.heap.size]?=some (.cells #[.int .i64 G.rs[k].l,.slice A' G.rs[k].r.length c',.int .i64 G.rs[k].p] 45 (0,0))):=aA (by rw[hw4];exact heap_alloc_new wr _)
        rw[←hw4]at hsz4 hb4
        have HB4:=aA hb4
        have HW4:=aA (HWW.out.trans (hb4.mono HWW.out.size))
        rw[hjl2]at HD4 hw4 r0
        have d4:wr.heap.size<w4.heap.size:=by omega
        have e0:=fun y:Calm.On w4.heap.size w4=>((hb4.trans (y.2.mono hb4.size)).cell (p:=⟨w.heap.size,0,none⟩) (by simp only;have:=HB1.out.size;omega)).trans c0
        have e1:=fun y:Calm.On w4.heap.size w4=>((hb4.trans (y.2.mono hb4.size)).cell (p:=⟨w.heap.size,1,none⟩) (by simp only;have:=HB1.out.size;omega)).trans c1
        have e2:=fun y:Calm.On w4.heap.size w4=>((hb4.trans (y.2.mono hb4.size)).cell (p:=⟨w.heap.size,2,none⟩) (by simp only;have:=HB1.out.size;omega)).trans c2
        have e3:=fun y:Calm.On w4.heap.size w4=>((hb4.trans (y.2.mono hb4.size)).cell (p:=⟨w.heap.size,3,none⟩) (by simp only;have:=HB1.out.size;omega)).trans c3
        have m0:=fun y:Calm.On w4.heap.size w4=>((hb4.trans (y.2.mono hb4.size)).cell (p:=⟨gN,oN+jl,none⟩) hgNs).trans n0
        have d0:=fun y:Calm.On w4.heap.size w4=>(show y.1.cell? ⟨wr.heap.size,0,none⟩=some (.int .i64 jl) by rw[cell_of_row y.1 _ 0 _ _ _ ((y.2.block _ d4).trans HD4.out)];rfl)
        have d1:=fun y:Calm.On w4.heap.size w4=>(show y.1.cell? ⟨wr.heap.size,1,none⟩=some (.slice A' G.rs[k].r.length c') by rw[cell_of_row y.1 _ 1 _ _ _ ((y.2.block _ d4).trans HD4.out)];rfl)
        clear hc l0 l1 p1 p4 p5 hin hpre hbs hs hb4 r5
        generalize hs5:K.str bs=s5 at *
        have HS5:=aA hs5
        clear hs5
        generalize K.str (pre++G.ns[jl]++[32,58])=s2 at *
        generalize K.str (pre++G.ns[jl])=s1 at *
        generalize K.str G.ns[jl]=nz at *
        generalize K.str (Sh.rwords G G.rs[k].r)=wz at *
        go_upto_region 17 with fail
        rw[←hw4]
        clear hw4
        refine CalmN.region_tree (fun x=>∃y:Calm.On w4.heap.size w4,x=y.1) (.one [0,1,2,3,4,5,6,7,8,9,10,11] 12 (.fin [13,14])) (by kernel_rfl) (by kernel_rfl) (fun _ _ d _ _ h=>by cases d <;> exact h) ⟨⟨w4.drew,aB (Below.refl _ _) 1⟩,rfl⟩ ?_
        simp only[CalmN.wpT,CalmN.wpSt,CalmN.pickOps,List.getElem?_toArray,List.getElem?_cons_zero,List.getElem?_cons_succ]
        repeat (go_big_quiet_step (fail))
        refine wpQuiet_nil ?_
        clear e0 e1 e2 e3 m0 d0 d1 A1 A2
        intro KK hKK
        rw[if_pos (by rfl)]
        go_wp2_with fail
        refine(HWD.out w4.drew (HW4.out.trans (aB (Below.refl _ _) 1))).mono ?_;rintro _ w5 ⟨rfl,hb5⟩
        have hb45:Below w4.heap.size w4 w5:=(aB (Below.refl w4.heap.size w4) 1).trans hb5
        have HB5:=aA hb45
        go_wp2_with fail
        refine hKK _ _ ⟨⟨w5,HB5.out⟩,rfl⟩ (fun x=>∃y:Calm.On w4.heap.size w4,x=y.1) (fun _ h=>h) ⟨⟨w5,HB5.out⟩,rfl⟩ ?_
        repeat (go_big_quiet_step (fail))
        refine wpQuiet_nil ?_
        clear hKK A3 hb5
        have HBW5:=aA (HBW.out.trans ((HB4.out.trans (hb45.mono HB4.out.size)).mono (Nat.le_trans HBW.out.size (Nat.le_refl _))))
        have HW5:=aA (HW4.out.trans (hb45.mono HW4.out.size))
        have HD5:=aA ((hb45.block _ d4).trans HD4.out)
        have d5:wr.heap.size<w5.heap.size:=by have:=hb45.size;omega
        clear hb45
        have u1:=fun y:Calm.On w5.heap.size w5=>(show y.1.cell? ⟨wr.heap.size,1,none⟩=some (.slice A' G.rs[k].r.length c') by rw[cell_of_row y.1 _ 1 _ _ _ ((y.2.block _ d5).trans HD5.out)];rfl)
        have u2:=fun y:Calm.On w5.heap.size w5=>(show y.1.cell? ⟨wr.heap.size,2,none⟩=some (.int .i64 G.rs[k].p) by rw[cell_of_row y.1 _ 2 _ _ _ ((y.2.block _ d5).trans HD5.out)];rfl)
        go_upto_region 18 with fail
        refine CalmN.region_tree (fun x=>∃y:Calm.On w5.heap.size w5,x=y.1) (.one [0,1,2,3] 4 (.fin [5])) (by kernel_rfl) (by kernel_rfl) (fun _ _ d _ _ h=>by cases d <;> exact h) ⟨⟨w5.drew,aB (Below.refl _ _) 1⟩,rfl⟩ ?_
        simp only[CalmN.wpT,CalmN.wpSt,CalmN.pickOps,List.getElem?_toArray,List.getElem?_cons_zero,List.getElem?_cons_succ]
        repeat (go_big_quiet_step (fail))
        refine wpQuiet_nil ?_
        clear u1 u2
        intro KK hKK
        rw[if_pos (by rfl)]
        go_wp2_with fail
        refine(HLA.out w5.drew (HW5.out.trans (aB (Below.refl _ _) 1))).mono ?_;rintro _ w6 ⟨rfl,hw6⟩
        have HB6:Hid (Below w5.heap.size w5 w6):=aA (by rw[hw6];exact aB (Below.refl _ _) 1)
        clear hw6
        go_wp2_with fail
        refine hKK _ _ ⟨⟨w6,HB6.out⟩,rfl⟩ (fun x=>∃y:Calm.On w5.heap.size w5,x=y.1) (fun _ h=>h) ⟨⟨w6,HB6.out⟩,rfl⟩ ?_
        have HBW6:=aA (HBW5.out.trans (HB6.out.mono (Nat.le_trans HBW.out.size (by have:=HB4.out.size;have:=HB5.out.size;omega))))
        have HW6:=aA (HW5.out.trans (HB6.out.mono HW5.out.size))
        have HD6:=aA ((HB6.out.block _ d5).trans HD5.out)
        have d6:wr.heap.size<w6.heap.size:=by have:=HB6.out.size;omega
        by_cases hpl:G.rs[k].p=Sh.last G.rs[k].r
        ·have HE:Hid (bs++[32,59,10]=P++(G.rs.take (k+1)).flatMap (Sh.rrule G)):=aA (by
          rw[HRR.out,HRD.out,HNM.out,if_pos hpl,HBS.out,HPRE.out];simp)
         have A4:=fun x=>aV bs [32,59,10] x (by have:=HBL.out;simp;omega)
         rw[zhd,HE.out]at A4
         have HEL:Hid ((P++(G.rs.take (k+1)).flatMap (Sh.rrule G)).length≤16000+300*(k+1)):=aA (by rw[←HE.out];have:=HBL.out;simp;omega)
         have epl:(G.rs[k].p != Sh.last G.rs[k].r)=false:=by simpa using hpl
         rw[HS5.out]at A4
         clear hpl
         generalize Sh.last G.rs[k].r=la at *
         generalize G.rs[k].p=pp at *
         generalize hs6:K.str (P++(G.rs.take (k+1)).flatMap (Sh.rrule G))=s6 at *
         have HS6:=aA hs6
         clear hs6
         repeat (go_big_quiet_step (fail))
         refine wpQuiet_nil ?_
         clear hKK
         go_wp2
         go_roundw
         case rel=>exact⟨k+1,s6,hlt,by go_num,rfl,HS6.out.symm,HEL.out,HBW6⟩
         case measure=>simp[intOf];omega
        ·obtain⟨jp,hjp⟩:∃j:Nat,G.rs[k].p=(j:Int):=⟨_,(Int.toNat_of_nonneg ((Gm.rule_parts (Sh.rule_of HRT.out k hlt).2.2).2.2.2.2 hpl)).symm⟩
         have hjpl:jp<G.ts.length:=by have:=(Gm.rule_parts (Sh.rule_of HRT.out k hlt).2.2).2.2.1;omega
         have HPN:Hid (Gm.name G G.rs[k].p=G.ts[jp].nm):=aA (by rw[hjp];exact Sh.pname jp hjpl)
         have HPNL:=aA (Sh.tm_len HRT.out _ (List.getElem_mem hjpl))
         obtain⟨gT,oT,rfl,hgT,hcT⟩:=HT.out (by omega)
         have t0:=(HW6.out.cell (p:=⟨gT,oT+jp*3,none⟩) (by have:=HB0.out;simp only;omega)).trans (hcT jp hjpl).1
         have hgTs:gT<w6.heap.size:=by have:=HW6.out.size;have:=HB0.out;omega
         have hwr6:wr.heap.size≤w6.heap.size:=by omega
         have f0:=((HB4.out.trans ((HB5.out.trans (HB6.out.mono HB5.out.size)).mono HB4.out.size)).cell (p:=⟨w.heap.size,0,none⟩) (by simp only;have:=HB1.out.size;omega)).trans c0
         have g2:w6.cell? ⟨wr.heap.size,2,none⟩=some (.int .i64 jp):=by rw[cell_of_row w6 _ 2 _ _ _ HD6.out,←hjp];rfl
         have HE:Hid (bs++([32]++Sh.wPrec++[32])++G.ts[jp].nm++[32,59,10]=P++(G.rs.take (k+1)).flatMap (Sh.rrule G)):=aA (by
          rw[HRR.out,HRD.out,HNM.out,if_neg hpl,HPN.out,HBS.out,HPRE.out];simp)
         have A4:=fun x=>aV bs ([32]++Sh.wPrec++[32]) x (by have:=HBL.out;simp[Sh.wPrec];omega)
         have A5:=fun x=>aV (bs++([32]++Sh.wPrec++[32])) G.ts[jp].nm x (by have:=HBL.out;have:=HPNL.out;simp[Sh.wPrec];omega)
         have A6:=fun x=>aV (bs++([32]++Sh.wPrec++[32])++G.ts[jp].nm) [32,59,10] x (by have:=HBL.out;have:=HPNL.out;simp[Sh.wPrec];omega)
         rw[zka,HS5.out]at A4
         rw[zhd,HE.out]at A6
         have HEL:Hid ((P++(G.rs.take (k+1)).flatMap (Sh.rrule G)).length≤16000+300*(k+1)):=aA (by rw[←HE.out];have:=HBL.out;have:=HPNL.out;simp[Sh.wPrec];omega)
         have epl:((jp:Int) != Sh.last G.rs[k].r)=true:=by rw[←hjp];simpa using hpl
         rw[hjp]
         clear hpl hjp c0 c1 c2 c3 hcT
         generalize Sh.last G.rs[k].r=la at *
         generalize hs6:K.str (P++(G.rs.take (k+1)).flatMap (Sh.rrule G))=s6 at *
         have HS6:=aA hs6
         clear hs6
         generalize K.str (bs++([32]++Sh.wPrec++[32])++G.ts[jp].nm)=s8 at *
         generalize K.str (bs++([32]++Sh.wPrec++[32]))=s7 at *
         generalize K.str G.ts[jp].nm=nm2 at *
         repeat (go_big_quiet_step (fail))
         refine wpQuiet_nil ?_
         clear hKK
         go_wp2
         go_roundw
         case rel=>exact⟨k+1,s6,hlt,by go_num,rfl,HS6.out.symm,HEL.out,HBW6⟩
         case measure=>simp[intOf];omega
       ·obtain rfl:k=G.rs.length:=by omega
        rw[List.take_length]at HS2 HSL2 hs
        rw[←HPT.out,HPR.out]at HS2 HSL2 hs
        have hlen:t.size=(Sh.text G).length:=by rw[hs,K.str_size]
        have HT4:=aA hs
        have HSE:=aA (HSL2.out)
        clear hs c0 c1 c3
        by_cases h4:4000<(Sh.text G).length
        ·have h4':(4000:Int)<(t.size:Int):=by omega
         have H4:=aA h4
         clear hlen h4
         go_wp2
         go_ret2
         exact⟨by rw[zcd];rfl,HWW.out⟩
        ·have h4':¬(4000:Int)<(t.size:Int):=by omega
         have H4:=aA h4
         clear hlen h4
         go_wp2
         go_ret2
         exact⟨by rw[←HT4.out];rfl,HWW.out⟩
 ·rw[if_neg hri]
  have e0:Gm.right G=false:=by simpa using hri
  rw[e0]at HRI
  have c0:=cell_of_row w1 _ 0 _ _ _ HX1.out
  have c1:=cell_of_row w1 _ 1 _ _ _ HX1.out
  have c2:=cell_of_row w1 _ 2 _ _ _ HX1.out
  have c3:=cell_of_row w1 _ 3 _ _ _ HX1.out
  simp only[List.getElem?_toArray,List.getElem?_cons_zero,List.getElem?_cons_succ]at c0 c1 c2 c3
  have HRC:=aA (HRI.out w1 HB1.out)
  clear ht hn hr hri e0 HRI hf hB
  go_enter Tryz.func10,Tryz.ntmps10
  go_wp2_with fail
  rw[←hw1]
  clear hw1
  go_wp2_with fail
  refine HRC.out.mono ?_;rintro _ w2 ⟨rfl,hb2⟩
  have HB2:=aA hb2
  clear hb2 HRC c0 c1 c2 c3
  go_wp2
  go_ret2
  exact⟨by simp only[];rw[zcd];rfl,HB1.out.trans (HB2.out.mono HB1.out.size)⟩
theorem zeV (v:Value) (G:Gm.Gr) (B:Nat) (w:World) (hg:bC w B v G) (hf:Gm.Fit G) (hB:B≤w.heap.size) :
  Calls Tryz.prog 12 #[v] w fun e w'=>e=.returned (.tuple #[.int .u32 (Sh.dg G:Nat),.int .i64 (Sh.pr G).2])∧Below w.heap.size w w':=by
 have HG:=aA hg
 obtain⟨AT,cT,AN,cN,AR,cR,rfl,_,_,_,_,_,_⟩:=hg
 have HPR:=aA (fun(x:World) (h:Below w.heap.size w x)=>zcW _ G B x (HG.out.below h hB) hf (Nat.le_trans hB h.size))
 have HS0:=aA (One.start w #[.slice AT G.ts.length cT,.slice AN G.ns.length cN,.slice AR G.rs.length cR,.int .i64 G.st]).below
 have hb:=Sh.pr_bytes hf
 have hl:=Sh.pr_len G
 have hsz:=K.str_size (Sh.pr G).1
 unfold Sh.dg
 by_cases h0:(Sh.pr G).2=0
 ·rw[h0]at HPR
  rw[if_pos h0,h0]
  generalize (Sh.pr G).1=l at *
  have C1:=fun w=>zaz w l
  have P1:=aA (fun(x:World) (h:Below w.heap.size w x)=>zfx (some ⟨x.heap.size,0,none⟩) (zfw x l) _ l (x.drew.alloc (ziD x l)) (za4 x l hb).1 hb (by omega))
  have B1:=aA (fun(x:World)=>(za4 x l hb).2.1)
  clear h0 hf hb
  go_enter Tryz.func12,Tryz.ntmps12
  go_wp2_with fail
  refine(HPR.out _ HS0.out).mono ?_;rintro _ w1 ⟨rfl,hb1⟩
  have HB1:=aA (HS0.out.trans (hb1.mono HS0.out.size))
  clear hb1
  go_wp2_with fail
  refine(P1.out _ HB1.out).mono ?_;rintro _ w' ⟨rfl,rfl⟩
  go_wp2
  go_ret2
  exact⟨rfl,HB1.out.trans ((B1.out w1).mono HB1.out.size)⟩
 ·rw[if_neg h0]
  have h0':((Sh.pr G).2 != 0)=true:=by simpa using h0
  generalize (Sh.pr G).2=er at *
  clear h0 hf hb
  go_enter Tryz.func12,Tryz.ntmps12
  go_wp2_with fail
  refine(HPR.out _ HS0.out).mono ?_;rintro _ w1 ⟨rfl,hb1⟩
  have HB1:=aA (HS0.out.trans (hb1.mono HS0.out.size))
  clear hb1
  go_wp2
  go_ret2
  exact⟨rfl,HB1.out⟩
theorem zjz {w:World} {ops:Array Oper} {rest:List Oper} {o:Oper} {a:Act} {Q:Exit→Act→World→Prop}
  (hgd:o.guard=none) (s x:Operand) (t:TypeId) (ho:o.op=.call {callee:=.builtin .append,args:=#[s,x],argTypes:=#[t,t]}) (ht:Tryz.prog.underlying t=some (.slice 51))
  (base:Nat) (v:Value) (xs:List Gm.Tm) (hs:a.eval s=v) (hown:aZ w base v xs) (B m c:Nat) (A:Option Addr) (zs:List Gm.Tm) (hx:a.eval x=.slice A m c) (hm:m=zs.length) (hr:zgS w B A zs)
  (hlen:xs.length+zs.length≤1000000) (hbase:base≤w.heap.size)
  (hK:∀v' w',aZ w' base v' (xs++zs)→w.grownBy w' v.ownBlock→wpList Tryz.prog ops Q rest (a.put o.dst v') w') :
  wpList Tryz.prog ops Q (o::rest) a w:=by
 obtain⟨i,hi,hz0,hz1,hz2⟩:=info_parts zh8
 subst hm
 rcases A with _|ad
 ·have hz:zs=[]:=by
   rcases Nat.eq_zero_or_pos zs.length with h0|h0
   ·exact List.eq_nil_of_length_eq_zero h0
   ·obtain⟨g,o',h,_⟩:=hr (by omega);cases h
  subst hz
  have hrun:=zam (P:=Tryz.prog) w base t o.type 51 i 3 ht hi v xs.length _ hown c
  refine wpList_plain hgd fun K hK'=>?_
  unfold Oper.wp
  simp[execOp,ho,resolve,invoke,builtin,hs,hx,hrun,Result.andThen]
  exact hK' _ _ (hK v w (by simpa using hown) (World.grownBy.refl _ _))
 ·refine wpList_append_own w hgd s x t ho base 51 i _ 3 32 ht hi hz0 hz1 hz2 rfl (by decide) v xs.length (zdW xs) hs hown ad zs.length c (zdW zs) hx (zdX tmC (fun _=>rfl) zs) ?_ ?_ (by unfold maxLen;omega) (by omega) hbase fun v' w' h1 h2 _=>hK v' w' ?_ h2
  ·intro j u hj
   have hjl:j<zs.length*3:=by have:=(List.getElem?_eq_some_iff.1 hj).1;rw[←zdX tmC (fun _=>rfl) zs];exact this
   obtain⟨g,o',h,_,hc⟩:=hr (by omega)
   replace h:=Option.some.inj h
   subst h
   have e:((⟨g,o',none⟩:Addr).add j)=⟨g,o'+j,none⟩:=by unfold Addr.add;by_cases h0:j=0 <;> simp[h0]
   rw[e]
   have hi3:j / 3<zs.length:=by omega
   have hm3:j % 3<3:=Nat.mod_lt _ (by decide)
   have hj2:j=j / 3*3+j % 3:=by omega
   have hk:=zbp tmC (fun _=>rfl) zs (j / 3) (j % 3) hi3 hm3
   rw[←hj2]at hk
   have hj':(tmC zs[j / 3])[j % 3]?=some u:=hk.symm.trans hj
   obtain⟨k0,k1,k2⟩:=hc (j / 3) hi3
   rw[hj2]
   generalize j % 3=q at *
   match q,hm3 with
   | 0,_=>rw[Nat.add_zero,k0];exact hj'
   | 1,_=>rw[←Nat.add_assoc,k1];exact hj'
   | 2,_=>rw[←Nat.add_assoc,k2];exact hj'
  ·intro u hu
   unfold zdW at hu
   obtain⟨y,_,hy⟩:=List.mem_flatMap.1 hu
   simp[tmC]at hy;rcases hy with rfl|rfl|rfl <;> rfl
  ·unfold aZ zdW
   rw[List.length_append,List.flatMap_append];exact h1
theorem zjC {w:World} {ops:Array Oper} {rest:List Oper} {o:Oper} {a:Act} {Q:Exit→Act→World→Prop}
  (hgd:o.guard=none) (s x:Operand) (t:TypeId) (ho:o.op=.call {callee:=.builtin .append,args:=#[s,x],argTypes:=#[t,t]}) (ht:Tryz.prog.underlying t=some (.slice 9))
  (base:Nat) (v:Value) (xs:List (List Int)) (hs:a.eval s=v) (hown:bD w base v xs) (B m c:Nat) (A:Option Addr) (zs:List (List Int)) (hx:a.eval x=.slice A m c) (hm:m=zs.length) (hr:RdN w B A zs)
  (hlen:xs.length+zs.length≤1000000) (hbase:base≤w.heap.size)
  (hK:∀v' w',bD w' base v' (xs++zs)→w.grownBy w' v.ownBlock→wpList Tryz.prog ops Q rest (a.put o.dst v') w') :
  wpList Tryz.prog ops Q (o::rest) a w:=by
 obtain⟨i,hi,hz0,hz1,hz2⟩:=info_parts zfR
 subst hm
 rcases A with _|ad
 ·have hz:zs=[]:=by
   rcases Nat.eq_zero_or_pos zs.length with h0|h0
   ·exact List.eq_nil_of_length_eq_zero h0
   ·obtain⟨g,o',h,_⟩:=hr (by omega);cases h
  subst hz
  have hrun:=zam (P:=Tryz.prog) w base t o.type 9 i 1 ht hi v xs.length _ hown c
  refine wpList_plain hgd fun K hK'=>?_
  unfold Oper.wp
  simp[execOp,ho,resolve,invoke,builtin,hs,hx,hrun,Result.andThen]
  exact hK' _ _ (hK v w (by simpa using hown) (World.grownBy.refl _ _))
 ·refine wpList_append_own w hgd s x t ho base 9 i _ 1 16 ht hi hz0 hz1 hz2 rfl (by decide) v xs.length (bJ xs) hs hown ad zs.length c (bJ zs) hx (by unfold bJ;simp) ?_ ?_ (by unfold maxLen;omega) (by omega) hbase fun v' w' h1 h2 _=>hK v' w' ?_ h2
  ·intro j u hj
   have hjl:j<zs.length:=by have:=(List.getElem?_eq_some_iff.1 hj).1;simpa[bJ] using this
   obtain⟨g,o',h,_,hc⟩:=hr (by omega)
   replace h:=Option.some.inj h
   subst h
   have e:((⟨g,o',none⟩:Addr).add j)=⟨g,o'+j,none⟩:=by unfold Addr.add;by_cases h0:j=0 <;> simp[h0]
   rw[e,hc j hjl]
   unfold bJ at hj
   rw[List.getElem?_map,List.getElem?_eq_getElem hjl]at hj
   simpa using hj
  ·intro u hu
   unfold bJ at hu
   obtain⟨y,_,rfl⟩:=List.mem_map.1 hu
   rfl
  ·unfold bD bJ
   rw[List.length_append,List.map_append];exact h1
theorem zaU (w:World):aZ (w.alloc (.cells #[] 51)) w.heap.size (.slice (some ⟨w.heap.size,0,none⟩) 0 0) []:=by
 have:=World.ownsRow_made (base:=w.heap.size) (e:=51) (size:=3) w #[] 0 (Nat.le_refl _) (by unfold maxLen;omega) rfl
 exact this
theorem zaL (w:World):bD (w.alloc (.cells #[] 9)) w.heap.size (.slice (some ⟨w.heap.size,0,none⟩) 0 0) []:=by
 have:=World.ownsRow_made (base:=w.heap.size) (e:=9) (size:=1) w #[] 0 (Nat.le_refl _) (by unfold maxLen;omega) rfl
 exact this
theorem zgj (A:Option Addr) (c B:Nat) (zs:List Int) (w:World) (hr:RdI w B A zs) (hB:B≤w.heap.size) (hl:zs.length≤1000000) :
  Calls Tryz.prog 18 #[.slice A zs.length c] w fun e w'=>∃v,e=.returned v∧bE w' w.heap.size v zs∧Below w.heap.size w w':=by
 have HR:=aA (fun o=>(show RdI (w.alloc o) w.heap.size A zs from fun hn=>by
  obtain⟨g,o',e,hg,hc⟩:=hr hn
  exact⟨g,o',e,by omega,fun j hj=>(Below.cell ((Below.refl w.heap.size w).alloc (Nat.le_refl _) o) (p:=⟨g,o'+j,none⟩) (by simp only;omega)).trans (hc j hj)⟩))
 clear hr
 go_enter Tryz.func18,Tryz.ntmps18
 go_wp2_with (at_builtin;refine zjy rfl (.tmp 3) (.tmp 4) _ rfl Tryz.underlying43 w.heap.size _ [] rfl (zc2 w) w.heap.size zs.length c A zs rfl rfl (HR.out _) (by simp;omega) (by simp) ?_;intro v' w' h1 h2)
 go_ret
 exact⟨_,rfl,h1,zeJ ((Below.refl _ _).alloc (Nat.le_refl _) _) (zc2 w) h2 (by simp)⟩
structure CpI (w0 wr:World) (n:Nat) (cs:Array Value) (vT vN v:Value) (ts:List Gm.Tm) (ns:List (List Int)) (rs:List Gm.Rl):Prop where
 b:wr.heap[n]?=some (.cells cs 26 (0,0))
 z:wr.heap[n+1]?=some (.cells #[.slice none 0 0,.slice none 0 0,.slice none 0 0,.int .i64 0] 26 (0,0))
 t:aZ wr n vT ts
 nn:bD wr n vN ns
 r:bF wr n wr.heap.size v rs
 w:Below n w0 wr
 s:n+2≤wr.heap.size
section
variable {w0 wr w':World} {n:Nat} {cs:Array Value} {vT vN v:Value} {ts:List Gm.Tm} {ns:List (List Int)} {rs:List Gm.Rl}
theorem CpI.grown (h:CpI w0 wr n cs vT vN v ts ns rs) {row:Option Nat} (hg:wr.grownBy w' row) (ho:∀g,row=some g→n+1<g∧∃cs T,wr.heap[g]?=some (.cells cs T (0,0))∧T≠51∧T≠9∧T≠3∧T≠45):CpI w0 w' n cs vT vN v ts ns rs:=by
 refine⟨(hg.block n (Array.getElem?_eq_some_iff.1 h.b).1 (fun e=>by have:=(ho n e.symm).1;omega)).trans h.b,(hg.block (n+1) (Array.getElem?_eq_some_iff.1 h.z).1 (fun e=>by have:=(ho (n+1) e.symm).1;omega)).trans h.z,World.ownsRow.kept h.t hg ?_,World.ownsRow.kept h.nn hg ?_,(h.r.grown hg ?_).more hg.size,h.w.grown hg (by have:=h.s;omega) (fun k e=>by have:=(ho k e).1;omega),by have:=h.s;have:=hg.size;omega⟩
 ·rcases row with _|g
  ·exact zaB _
  ·obtain⟨_,cs,T,h1,h2,_⟩:=ho g rfl
   exact aN h.t h1 (fun cur e=>by injection e with _ e;exact h2 e)
 ·rcases row with _|g
  ·exact zaB _
  ·obtain⟨_,cs,T,h1,_,h2,_⟩:=ho g rfl
   exact aN h.nn h1 (fun cur e=>by injection e with _ e;exact h2 e)
 ·intro g e
  obtain⟨_,cs,T,h1,_,_,h2,h3⟩:=ho g e
  exact .inl ⟨aR h1 h2,aR h1 h3⟩
theorem CpI.alloc (h:CpI w0 wr n cs vT vN v ts ns rs) (o:Obj):CpI w0 (wr.alloc o) n cs vT vN v ts ns rs:=h.grown (World.grownBy_alloc wr o .none) (fun g e=>by cases e)
theorem CpI.below (h:CpI w0 wr n cs vT vN v ts ns rs) (hb:Below wr.heap.size wr w'):CpI w0 w' n cs vT vN v ts ns rs:=h.grown (aQ hb .none) (fun g e=>by cases e)
theorem CpI.young (h:CpI w0 wr n cs vT vN v ts ns rs) {w2:World} {D j:Nat} {u:Value} (hD:wr.heap.size≤D) (hb:Below wr.heap.size wr w2):CpI w0 (w2.setCell ⟨D,j,none⟩ u) n cs vT vN v ts ns rs:=by
 have hs:=h.s
 exact h.below (hb.setCell (p:=⟨D,j,none⟩) (by simp only;omega) u)
end
theorem zfG {w:World} {base base':Nat} {e:TypeId} {size n:Nat} {v:Value} {xs:List Value} (h:w.ownsRow base e size v n xs) (hb:base'≤base):w.ownsRow base' e size v n xs:=by
 refine⟨h.1,?_⟩
 rcases h.2 with h0|⟨g,cap,cur,e,hb1,hr⟩
 ·exact .inl h0
 ·exact .inr ⟨g,cap,cur,e,by omega,hr⟩
theorem CpI.put {w0 wr w':World} {n:Nat} {cs:Array Value} {vT vN v v':Value} {ts:List Gm.Tm} {ns:List (List Int)} {rs rs':List Gm.Rl} (h:CpI w0 wr n cs vT vN v ts ns rs) (ho:bF w' n w'.heap.size v' rs') (hg:wr.grownBy w' v.ownBlock):CpI w0 w' n cs vT vN v' ts ns rs':=by
 obtain⟨qs,_,h2,_⟩:=id h.r
 exact⟨zad h.b h2 (by decide) hg,zad h.z h2 (by decide) hg,World.ownsRow.kept h.t hg (zaj h.t h2 (by decide)),World.ownsRow.kept h.nn hg (zaj h.nn h2 (by decide)),ho,h.w.grown hg (by have:=h.s;omega) (fun k e=>(aF h2 e).1),Nat.le_trans h.s hg.size⟩
structure Gx (w:World) (n:Nat) (vT vN v:Value) (ts:List Gm.Tm) (ns:List (List Int)) (rs:List Gm.Rl):Prop where
 a:∃cs,w.heap[n]?=some (.cells cs 26 (0,0))
 b:∃cs,w.heap[n+1]?=some (.cells cs 26 (0,0))
 t:aZ w n vT ts
 nn:bD w n vN ns
 r:bF w n w.heap.size v rs
theorem Gx.set {w:World} {n:Nat} {vT vN v:Value} {ts:List Gm.Tm} {ns:List (List Int)} {rs:List Gm.Rl} (h:Gx w n vT vN v ts ns rs) (g j:Nat) (u:Value) (hg:g=n∨g=n+1):Gx (w.setCell ⟨g,j,none⟩ u) n vT vN v ts ns rs:=by
 have hc:∃cs,w.heap[g]?=some (.cells cs 26 (0,0)):=by rcases hg with rfl|rfl;exact h.a;exact h.b
 obtain⟨cs,hc⟩:=hc
 have hs:w.grownBy (w.setCell ⟨g,j,none⟩ u) (some g):=aD (World.grownBy.refl _ _) j u
 have key:∀m:Nat,(∃cs,w.heap[m]?=some (.cells cs 26 (0,0)))→∃cs,(w.setCell ⟨g,j,none⟩ u).heap[m]?=some (.cells cs 26 (0,0)):=fun m ⟨c2,h2⟩=>by
  by_cases e:m=g
  ·subst e;exact⟨_,heap_setCell_same w m j _ _ u h2⟩
  ·exact⟨c2,(Below.heap_setCell w ⟨g,j,none⟩ u m (by simp only;omega)).trans h2⟩
 refine⟨key n h.a,key (n+1) h.b,World.ownsRow.kept h.t hs (aN h.t hc (fun cur e=>by injection e with _ e;cases e)),World.ownsRow.kept h.nn hs (aN h.nn hc (fun cur e=>by injection e with _ e;cases e)),(h.r.grown hs (fun g' e=>?_)).more hs.size⟩
 injection e with e
 subst e
 exact .inl ⟨aR hc (by decide),aR hc (by decide)⟩
theorem Gx.rd {w:World} {n:Nat} {vT vN v:Value} {ts:List Gm.Tm} {ns:List (List Int)} {rs:List Gm.Rl} (h:Gx w n vT vN v ts ns rs) (z:Int):bC w w.heap.size (.agg #[vT,vN,v,.int .i64 z]) ⟨ts,ns,rs,z⟩:=by
 obtain⟨AT,cT,rfl,h1,h2⟩:=zca h.t
 obtain⟨AN,cN,rfl,h3,h4⟩:=zdA h.nn
 obtain⟨AR,cR,rfl,h5,h6⟩:=zcl h.r (Nat.le_refl _)
 exact⟨AT,cT,AN,cN,AR,cR,rfl,h1,h3,h5,h2,h4,h6⟩
theorem zdu {w w':World} {base:Nat} {e:TypeId} {size n:Nat} {v:Value} {xs:List Value} (ho:w.ownsRow base e size v n xs) (hg:w.grownBy w' v.ownBlock) {g:Nat} (hb:g<base) (hs:g<w.heap.size):w'.heap[g]?=w.heap[g]? :=
 hg.block g hs (fun e=>by have:=(aF ho e.symm).1;omega)
theorem zgi (v:Value) (G:Gm.Gr) (B:Nat) (w:World) (hg:bC w B v G) (hB:B≤w.heap.size) (ht:G.ts.length≤1000) (hn:G.ns.length≤1000) (hr:G.rs.length≤1000) (hrr:∀r∈G.rs,r.r.length≤1000) :
  Calls Tryz.prog 8 #[v] w fun e w'=>∃g,e=.returned g∧bC w' w'.heap.size g G∧Below w.heap.size w w':=by
 obtain⟨AT,cT,AN,cN,AR,cR,rfl,_,_,_,hT,hN,hR⟩:=hg
 have HR:=aA hR
 have HRL:=aA (fun(i:Nat) (hi:i<G.rs.length)=>hrr _ (List.getElem_mem hi))
 have HLT:=aA (And.intro ht (And.intro hn hr))
 obtain⟨w1,hw1⟩:∃y,y=(w.alloc (.cells #[.slice AT G.ts.length cT,.slice AN G.ns.length cN,.slice AR G.rs.length cR,.int .i64 G.st] 26)).alloc (.cells #[.slice none 0 0,.slice none 0 0,.slice none 0 0,.int .i64 0] 26):=⟨_,rfl⟩
 have hs1:w1.heap.size=w.heap.size+2:=by rw[hw1];simp
 have HB1:Hid (Below w.heap.size w w1):=aA (by rw[hw1];exact((Below.refl _ w).alloc (Nat.le_refl _) _).alloc (by simp) _)
 have HX1:Hid (w1.heap[w.heap.size]?=some (.cells #[.slice AT G.ts.length cT,.slice AN G.ns.length cN,.slice AR G.rs.length cR,.int .i64 G.st] 26 (0,0))):=aA (by rw[hw1,Below.heap_alloc _ _ _ (by simp)];exact heap_alloc_new w _)
 have HZ1:Hid (w1.heap[w.heap.size+1]?=some (.cells #[.slice none 0 0,.slice none 0 0,.slice none 0 0,.int .i64 0] 26 (0,0))):=aA (by rw[hw1];have:=heap_alloc_new (w.alloc (.cells #[.slice AT G.ts.length cT,.slice AN G.ns.length cN,.slice AR G.rs.length cR,.int .i64 G.st] 26)) (.cells #[.slice none 0 0,.slice none 0 0,.slice none 0 0,.int .i64 0] 26);simpa using this)
 have HTK:=aA (fun(x:World) (h:Below w.heap.size w x)=>hT.keep (fun g o hg=>h.cell (p:=⟨g,o,none⟩) (Nat.lt_of_lt_of_le hg hB)))
 have HNK:=aA (fun(x:World) (h:Below w.heap.size w x)=>hN.keep (fun g o hg=>h.cell (p:=⟨g,o,none⟩) (Nat.lt_of_lt_of_le hg hB)))
 have x0:w1.cell? ⟨w.heap.size,0,none⟩=some (.slice AT G.ts.length cT):=by rw[cell_of_row w1 _ 0 _ _ _ HX1.out];rfl
 have f0:=frozen_of_row w1 _ 0 _ _ HX1.out
 have HB0:=aA hB
 have HS1:=aA hs1
 have hd1:w.heap.size+1<w1.heap.size:=by omega
 have hd0:w.heap.size<w1.heap.size:=by omega
 clear hT hN hR ht hn hr hrr hB hs1
 go_enter Tryz.func8,Tryz.ntmps8
 go_upto_region 1 with fail
 rw[←hw1]
 clear hw1
 go_upto_region 2 with(at_builtin;refine zjz rfl (.tmp 6) (.tmp 8) _ rfl Tryz.underlying22 w1.heap.size _ [] rfl (zaU w1) B G.ts.length cT AT G.ts rfl rfl (HTK.out _ (HB1.out.alloc HB1.out.size _)) (by have:=HLT.out;simp;omega) (by simp) ?_;intro v2 w2 ho2 hg2;obtain⟨A2,c2,rfl,_,_⟩:=aU ho2;have hX2:=(zdu (zaU w1) hg2 hd0 (by simp;omega)).trans ((Below.heap_alloc w1 _ _ hd0).trans HX1.out);have s0:=cell_of_row w2 _ 0 _ _ _ hX2;have s1:=cell_of_row w2 _ 1 _ _ _ hX2;have z0:=frozen_of_row w2 _ 0 _ _ hX2;have z1:=frozen_of_row w2 _ 1 _ _ hX2;have l2:=(Array.getElem?_eq_some_iff.1 hX2).1;have HX2:=aA hX2;have HO2:=aA ho2;have HG2:=aA hg2;clear hX2 ho2 hg2)
 have HXA:Hid ((w2.setCell ⟨w.heap.size,0,none⟩ (.slice A2 G.ts.length c2)).heap[w.heap.size]?=some (.cells #[.slice A2 G.ts.length c2,.slice AN G.ns.length cN,.slice AR G.rs.length cR,.int .i64 G.st] 26 (0,0))):=aA (heap_setCell_same w2 _ 0 _ _ _ HX2.out)
 have HZA:Hid ((w2.setCell ⟨w.heap.size,0,none⟩ (.slice A2 G.ts.length c2)).heap[w.heap.size+1]?=some (.cells #[.slice none 0 0,.slice none 0 0,.slice none 0 0,.int .i64 0] 26 (0,0))):=aA ((Below.heap_setCell w2 _ _ _ (by simp only;omega)).trans ((zdu (zaU w1) HG2.out hd1 (by simp;omega)).trans ((Below.heap_alloc w1 _ _ hd1).trans HZ1.out)))
 have HTA:Hid (aZ (w2.setCell ⟨w.heap.size,0,none⟩ (.slice A2 G.ts.length c2)) w1.heap.size (.slice A2 G.ts.length c2) G.ts):=aA (World.ownsRow.kept HO2.out (aD (World.grownBy.refl _ _) 0 _) (aN HO2.out HX2.out (fun cur e=>by injection e with _ e;cases e)))
 have HBA:Hid (Below w.heap.size w (w2.setCell ⟨w.heap.size,0,none⟩ (.slice A2 G.ts.length c2))):=aA (((HB1.out.alloc HB1.out.size _).grown HG2.out (by have:=HB1.out.size;simp;omega) (fun k e=>by have:=(aF (zaU w1) e).1;have:=HB1.out.size;omega)).setCell (p:=⟨w.heap.size,0,none⟩) (Nat.le_refl _) _)
 have HSA:Hid (w1.heap.size≤w2.heap.size):=aA (by have:=HG2.out.size;simp at this;omega)
 obtain⟨wa,hwa⟩:∃x,x=w2.setCell ⟨w.heap.size,0,none⟩ (.slice A2 G.ts.length c2):=⟨_,rfl⟩
 have hza:wa.heap.size=w2.heap.size:=by rw[hwa];simp
 rw[←hwa]at HXA HZA HTA HBA ⊢
 have HZS:=aA hza
 clear hwa hza x0 f0 s0 s1 z0 z1 l2
 have s1:wa.cell? ⟨w.heap.size,1,none⟩=some (.slice AN G.ns.length cN):=by rw[cell_of_row wa _ 1 _ _ _ HXA.out];rfl
 have la:w.heap.size<wa.heap.size:=(Array.getElem?_eq_some_iff.1 HXA.out).1
 go_upto_region 3 with(at_builtin;refine zjC rfl (.tmp 11) (.tmp 13) _ rfl Tryz.underlying23 wa.heap.size _ [] rfl (zaL wa) B G.ns.length cN AN G.ns rfl rfl (HNK.out _ (HBA.out.alloc HBA.out.size _)) (by have:=HLT.out;simp;omega) (by simp) ?_;intro v3 w3 ho3 hg3;obtain⟨A3,c3,rfl,_,_⟩:=aU ho3;have hX3:=(zdu (zaL wa) hg3 la (by simp;omega)).trans ((Below.heap_alloc wa _ _ la).trans HXA.out);have s1:=cell_of_row w3 _ 1 _ _ _ hX3;have z1:=frozen_of_row w3 _ 1 _ _ hX3;have l3:=(Array.getElem?_eq_some_iff.1 hX3).1;have HX3:=aA hX3;have HO3:=aA ho3;have HG3:=aA hg3;clear hX3 ho3 hg3)
 have HCP:Hid (CpI w (w3.setCell ⟨w.heap.size,1,none⟩ (.slice A3 G.ns.length c3)) w.heap.size #[.slice A2 G.ts.length c2,.slice A3 G.ns.length c3,.slice AR G.rs.length cR,.int .i64 G.st] (.slice A2 G.ts.length c2) (.slice A3 G.ns.length c3) (.slice none 0 0) G.ts G.ns []):=aA (by
  have hws:w.heap.size≤w1.heap.size:=HB1.out.size
  have hsa:w.heap.size≤wa.heap.size:=by have:=HSA.out;have:=HZS.out;omega
  have ht1:aZ (wa.alloc (.cells #[] 9)) w1.heap.size (.slice A2 G.ts.length c2) G.ts:=World.ownsRow.alloc HTA.out _
  have ht2:aZ w3 w1.heap.size (.slice A2 G.ts.length c2) G.ts:=World.ownsRow.kept ht1 HG3.out (zaj ht1 (zaL wa) (by decide))
  have hb3:Below w.heap.size w w3:=(HBA.out.alloc HBA.out.size _).grown HG3.out (by simp;omega) (fun k e=>by have:=(aF (zaL wa) e).1;omega)
  have hla:w.heap.size+1<wa.heap.size:=by have:=HSA.out;have:=HZS.out;omega
  have hz3:=(zdu (zaL wa) HG3.out hla (by simp;omega)).trans ((Below.heap_alloc wa _ _ hla).trans HZA.out)
  have hset:w3.grownBy (w3.setCell ⟨w.heap.size,1,none⟩ (.slice A3 G.ns.length c3)) (some w.heap.size):=aD (World.grownBy.refl _ _) 1 _
  refine⟨heap_setCell_same w3 _ 1 _ _ _ HX3.out,(Below.heap_setCell w3 _ _ _ (by simp only;omega)).trans hz3,zfG (World.ownsRow.kept ht2 hset (aN ht2 HX3.out (fun cur e=>by injection e with _ e;cases e))) hws,zfG (World.ownsRow.kept HO3.out hset (aN HO3.out HX3.out (fun cur e=>by injection e with _ e;cases e))) hsa,bF.nil _ _ _,hb3.setCell (p:=⟨w.heap.size,1,none⟩) (Nat.le_refl _) _,?_⟩
  have:=(Array.getElem?_eq_some_iff.1 hz3).1
  simp
  omega)
 obtain⟨wb,hwb⟩:∃x,x=w3.setCell ⟨w.heap.size,1,none⟩ (.slice A3 G.ns.length c3):=⟨_,rfl⟩
 rw[←hwb]at HCP ⊢
 obtain⟨n,hn⟩:∃n,n=w.heap.size:=⟨_,rfl⟩
 have HNN:=aA hn
 rw[←hn]at HCP HB0 ⊢
 clear hwb hn s1 z1 l3 la hd0 hd1 HX3 HO3 HG3 HXA HZA HTA HBA HSA HZS HX1 HZ1 HTK HNK HS1 HB1
 obtain⟨vT,hvT⟩:∃v,v=Value.slice A2 G.ts.length c2:=⟨_,rfl⟩
 obtain⟨vN,hvN⟩:∃v,v=Value.slice A3 G.ns.length c3:=⟨_,rfl⟩
 rw[←hvT,←hvN]at HCP ⊢
 clear hvT hvN
 go_wp2
 go_loopw [3,4] (fun vl vi wr=>∃(i:Nat),i≤G.rs.length∧vi=.int .i64 i∧Hid (CpI w wr n #[vT,vN,.slice AR G.rs.length cR,.int .i64 G.st] vT vN vl G.ts G.ns (G.rs.take i))) (fun _ vi _=>G.rs.length-(intOf vi).toNat)
 case atStart=>exact⟨0,Nat.zero_le _,rfl,HCP⟩
 case round =>
  clear HCP
  obtain⟨i,hi,rfl,HC⟩:=hrel
  obtain⟨A4,c4,hv4,_,_⟩:=aM HC.out.r
  rw[show(G.rs.take i).length=i by rw[List.length_take];omega]at hv4
  subst hv4
  have c2:wr.cell? ⟨n,2,none⟩=some (.slice AR G.rs.length cR):=by rw[cell_of_row wr _ 2 _ _ _ HC.out.b];rfl
  have ln:=(Array.getElem?_eq_some_iff.1 HC.out.b).1
  by_cases hlt:i<G.rs.length
  ·obtain⟨g,o,rfl,hgB,hc⟩:=HR.out (by omega)
   obtain⟨k0,⟨A',c',k1,q1,q2,hri⟩,k2⟩:=hc i hlt
   have hgn:g<n:=by have:=HB0.out;omega
   have k0:=(HC.out.w.cell (p:=⟨g,o+i*3,none⟩) hgn).trans k0
   have k1:=(HC.out.w.cell (p:=⟨g,o+i*3+1,none⟩) hgn).trans k1
   have k2:=(HC.out.w.cell (p:=⟨g,o+i*3+2,none⟩) hgn).trans k2
   have hgs:g<wr.heap.size:=by omega
   have hrl:=HRL.out i hlt
   have HTN:=aA (List.take_succ_eq_append_getElem hlt)
   have HCY:=aA (fun(x:World) (h:Below n w x)=>zgj A' c' B G.rs[i].r x (fun hn=>by
    obtain⟨g,o',e,hg,hc⟩:=hri hn
    exact⟨g,o',e,hg,fun j hj=>(h.cell (p:=⟨g,o'+j,none⟩) (Nat.lt_of_lt_of_le hg HB0.out)).trans (hc j hj)⟩) (Nat.le_trans HB0.out (by have:=h.size;have:=HNN.out;omega)) (by omega))
   clear hc hri q1 q2
   generalize G.rs[i]=r at *
   rcases r with⟨l,zs,p⟩
   simp only at k0 k1 k2 hrl HCY
   have HC1:=aA (HC.out.alloc (.cells #[.int .i64 l,.slice A' zs.length c',.int .i64 p] 45))
   have HD1:=aA (heap_alloc_new wr (.cells #[.int .i64 l,.slice A' zs.length c',.int .i64 p] 45))
   have HCC:=aA (HCY.out _ HC1.out.w)
   go_wp2_with fail
   refine HCC.out.mono ?_;rintro _ w2 ⟨vi,rfl,hoi,hb2⟩
   have hD2:=(hb2.block wr.heap.size (by simp)).trans HD1.out
   have hbr:Below wr.heap.size wr w2:=((Below.refl _ wr).alloc (Nat.le_refl _) _).trans (hb2.mono (by simp))
   obtain⟨Ai,ci,rfl,r1,r2,hrow⟩:=hoi.row (B:=n) (by have:=HC.out.s;simp;omega)
   have d1:=cell_of_row w2 _ 1 _ _ _ hD2
   have d0:w2.cell? ⟨wr.heap.size,0,none⟩=some (.int .i64 l):=by rw[cell_of_row w2 _ 0 _ _ _ hD2];rfl
   have d2:w2.cell? ⟨wr.heap.size,2,none⟩=some (.int .i64 p):=by rw[cell_of_row w2 _ 2 _ _ _ hD2];rfl
   have f1:=frozen_of_row w2 _ 1 _ _ hD2
   have ld:=(Array.getElem?_eq_some_iff.1 hD2).1
   have HC3:=aA (HC.out.young (D:=wr.heap.size) (j:=1) (u:=.slice Ai zs.length ci) (Nat.le_refl _) hbr)
   have HR3:Hid (bP (w2.setCell ⟨wr.heap.size,1,none⟩ (.slice Ai zs.length ci)) n (w2.setCell ⟨wr.heap.size,1,none⟩ (.slice Ai zs.length ci)).heap.size Ai zs):=aA ((hrow.grown (aD (World.grownBy.refl w2 (some wr.heap.size)) 1 (.slice Ai zs.length ci)) (fun g e=>by injection e with e;subst e;exact .inl (aR hD2 (by decide)))).more (by simp))
   have HC4:=aA (HC3.out.alloc (.cells #[.int .i64 l,.slice Ai zs.length ci,.int .i64 p] 45))
   have HR4:=aA ((HR3.out.grown (World.grownBy_alloc _ (.cells #[.int .i64 l,.slice Ai zs.length ci,.int .i64 p] 45) none) (fun g e=>by cases e)).more (show(w2.setCell ⟨wr.heap.size,1,none⟩ (.slice Ai zs.length ci)).heap.size≤((w2.setCell ⟨wr.heap.size,1,none⟩ (.slice Ai zs.length ci)).alloc (.cells #[.int .i64 l,.slice Ai zs.length ci,.int .i64 p] 45)).heap.size by simp))
   have HNC:Hid (∀j u,(rlC (⟨l,zs,p⟩,Ai,ci))[j]?=some u→((w2.setCell ⟨wr.heap.size,1,none⟩ (.slice Ai zs.length ci)).alloc (.cells #[.int .i64 l,.slice Ai zs.length ci,.int .i64 p] 45)).cell? ⟨w2.heap.size,j,none⟩=some u):=aA (fun j u hj=>by
    have h:=aH (w2.setCell ⟨wr.heap.size,1,none⟩ (.slice Ai zs.length ci)) (rlC (⟨l,zs,p⟩,Ai,ci)) 45 j
    rw[show(w2.setCell ⟨wr.heap.size,1,none⟩ (.slice Ai zs.length ci)).heap.size=w2.heap.size by simp]at h
    exact h.trans hj)
   have HR12:=aA (And.intro r1 r2)
   clear hoi hb2 hbr hrow hD2
   go_wp2_with (at_builtin;(go_loud (refine zjB rfl (.tmp 32) (.tmp 34) _ rfl Tryz.underlying24 n _ (.slice A4 i c4) (G.rs.take i) rfl HC4.out.r _ _ (⟨l,zs,p⟩,Ai,ci) rfl HNC.out ⟨HR12.out.1,HR12.out.2,HR4.out⟩ (by have:=HLT.out;rw[List.length_take];omega) (by have:=HC4.out.s;omega) (Nat.le_refl _) ?_));intro v5 w5 ho5 hg5;have HC5:=aA (HC4.out.put ho5 hg5);clear ho5 hg5)
   go_roundw
   case rel=>exact⟨i+1,hlt,by go_num,by rw[HTN.out];exact HC5⟩
   case measure=>simp[intOf];omega
  ·obtain rfl:i=G.rs.length:=by omega
   rw[List.take_length]at HC
   obtain⟨AT5,cT5,rfl,_,_⟩:=aU HC.out.t
   obtain⟨AN5,cN5,rfl,_,_⟩:=aU HC.out.nn
   have c0:wr.cell? ⟨n,0,none⟩=some (.slice AT5 G.ts.length cT5):=by rw[cell_of_row wr _ 0 _ _ _ HC.out.b];rfl
   have c1:wr.cell? ⟨n,1,none⟩=some (.slice AN5 G.ns.length cN5):=by rw[cell_of_row wr _ 1 _ _ _ HC.out.b];rfl
   have c3:wr.cell? ⟨n,3,none⟩=some (.int .i64 G.st):=by rw[cell_of_row wr _ 3 _ _ _ HC.out.b];rfl
   have f2:=frozen_of_row wr _ 2 _ _ HC.out.b
   have g0:wr.cell? ⟨n+1,0,none⟩=some (.slice none 0 0):=by rw[cell_of_row wr _ 0 _ _ _ HC.out.z];rfl
   have g1:wr.cell? ⟨n+1,1,none⟩=some (.slice none 0 0):=by rw[cell_of_row wr _ 1 _ _ _ HC.out.z];rfl
   have g2:wr.cell? ⟨n+1,2,none⟩=some (.slice none 0 0):=by rw[cell_of_row wr _ 2 _ _ _ HC.out.z];rfl
   have g3:wr.cell? ⟨n+1,3,none⟩=some (.int .i64 0):=by rw[cell_of_row wr _ 3 _ _ _ HC.out.z];rfl
   have e0:=frozen_of_row wr _ 0 _ _ HC.out.z
   have e1:=frozen_of_row wr _ 1 _ _ HC.out.z
   have e2:=frozen_of_row wr _ 2 _ _ HC.out.z
   have e3:=frozen_of_row wr _ 3 _ _ HC.out.z
   have lz:=(Array.getElem?_eq_some_iff.1 HC.out.z).1
   have HGX:Hid (Gx wr n (.slice AT5 G.ts.length cT5) (.slice AN5 G.ns.length cN5) (.slice A4 G.rs.length c4) G.ts G.ns G.rs):=aA ⟨⟨_,HC.out.b⟩,⟨_,HC.out.z⟩,HC.out.t,HC.out.nn,HC.out.r⟩
   have HGF:=aA (fun u0 u1 u2 u3 u4=>((((HGX.out.set n 2 u0 (.inl rfl)).set (n+1) 0 u1 (.inr rfl)).set (n+1) 1 u2 (.inr rfl)).set (n+1) 2 u3 (.inr rfl)).set (n+1) 3 u4 (.inr rfl))
   have HBF:=aA (fun u0 u1 u2 u3 u4=>((((HC.out.w.setCell (p:=⟨n,2,none⟩) (Nat.le_refl _) u0).setCell (p:=⟨n+1,0,none⟩) (by simp only;omega) u1).setCell (p:=⟨n+1,1,none⟩) (by simp only;omega) u2).setCell (p:=⟨n+1,2,none⟩) (by simp only;omega) u3).setCell (p:=⟨n+1,3,none⟩) (by simp only;omega) u4)
   clear HGX
   go_wp2
   refine bodyPost_ret (v:=.agg #[.slice AT5 G.ts.length cT5,.slice AN5 G.ns.length cN5,.slice A4 G.rs.length c4,.int .i64 G.st]) (by simp[results,Tryz.results8,go_sem,g0,g1,g2,g3]) rfl ?_
   exact⟨_,rfl,(HGF.out _ _ _ _ _).rd G.st,by rw[←HNN.out];exact HBF.out _ _ _ _ _⟩
end Go.Proofs.YtkfelkpilaipnaaGreatDoor
namespace Go.Proofs.YtkfelkpilaipnaaGreatDoor
set_option maxRecDepth 100000
set_option maxHeartbeats 40000000
open Go.RowKit
theorem zbu {G:Gm.Gr} (h:Gm.great G=false):G.ts.length≤40∧G.ns.length≤40∧G.rs.length≤60∧∀r∈G.rs,r.r.length≤20:=by
 unfold Gm.great at h
 simp only[Bool.or_eq_false_iff,decide_eq_false_iff_not,List.any_eq_false,decide_eq_true_eq]at h
 obtain⟨⟨⟨h1,h2⟩,h3⟩,h4⟩:=h
 exact⟨by omega,by omega,by omega,fun r hr=>by have:=h4 r hr;omega⟩
theorem zch (v:Value) (G:Gm.Gr) (w:World) (hg:bC w w.heap.size v G) (hf:Gm.Fit G) (h4:za1 w) :
  Calls Tryz.prog 3 #[v] w fun e w'=>e=.returned (.bool true)∧Below w.heap.size w w':=by
 have HGG:=aA (fun(x:World) (h:Below w.heap.size w x)=>hg.below h (Nat.le_refl _))
 have HAL:=aA (fun(x:World) (h:Below w.heap.size w x)=>zaD x (h4.below h))
 have TG:=aA (fun(x:World) (h:Below w.heap.size w x)=>zde v G w.heap.size x (HGG.out x h) h.size)
 have TC:=aA (fun(hh:Gm.great G=false) (x:World) (h:Below w.heap.size w x)=>zgi v G w.heap.size x (HGG.out x h) h.size (by have:=zbu hh;omega) (by have:=zbu hh;omega) (by have:=zbu hh;omega) (fun r hr=>by have:=(zbu hh).2.2.2 r hr;omega))
 have TP:=aA (fun(z x:World) (u:Value) (hu:bC z z.heap.size u G) (h:Below z.heap.size z x)=>zat u G z.heap.size x (hu.below h (Nat.le_refl _)) hf h.size)
 have TD:=aA (fun(z x:World) (u:Value) (hu:bC z z.heap.size u G) (h:Below z.heap.size z x) (k:Below w.heap.size w x)=>zbJ u G z.heap.size x (hu.below h (Nat.le_refl _)) hf h.size (h4.below k))
 have TP2:=aA (fun(x:World) (h:Below w.heap.size w x)=>zcW v G w.heap.size x (HGG.out x h) hf h.size)
 have TD2:=aA (fun(x:World) (h:Below w.heap.size w x)=>zeV v G w.heap.size x (HGG.out x h) hf h.size)
 have TS:=aA (fun(z x:World) (u:Value) (hu:bC z z.heap.size u G) (k:Below z.heap.size z x) (h:Below w.heap.size w x)=>zci u v G G z.heap.size w.heap.size x (hu.below k (Nat.le_refl _)) (HGG.out x h) hf hf k.size h.size)
 rw[Gm.same_self]at TS
 generalize K.str (Sh.pr G).1=tx at *
 generalize (Sh.pr G).2=er at *
 generalize Sh.dg G=dn at *
 obtain⟨A0,c0,A1,c1,A2,c2,rfl,_⟩:=hg
 have HQ0:=aA (One.start w #[.slice A0 G.ts.length c0,.slice A1 G.ns.length c1,.slice A2 G.rs.length c2,.int .i64 G.st])
 have HXC:=aA (fun(x:World) (h:One w #[.slice A0 G.ts.length c0,.slice A1 G.ns.length c1,.slice A2 G.rs.length c2,.int .i64 G.st] x)=>And.intro (h.c 0 _ rfl) (And.intro (h.c 1 _ rfl) (And.intro (h.c 2 _ rfl) (h.c 3 _ rfl))))
 clear h4
 go_enter Tryz.func3,Tryz.ntmps3
 go_wp2_with fail
 refine(HAL.out _ HQ0.out.below).mono ?_;rintro _ w1 ⟨rfl,hb1⟩
 have HQ1:=aA (HQ0.out.on hb1)
 obtain⟨x0,x1,x2,x3⟩:=HXC.out w1 HQ1.out
 clear hb1
 cases hgr:Gm.great G with
 | true =>
  rw[hgr]at TG
  go_wp2_with fail
  refine(TG.out _ HQ1.out.below).mono ?_;rintro _ w2 ⟨rfl,hb2⟩
  have HQ2:=aA (HQ1.out.on hb2)
  clear hb2
  go_wp2
  go_ret
  exact⟨rfl,HQ2.out.below⟩
 | false =>
  have TCC:=aA (TC.out hgr)
  rw[hgr]at TG
  go_wp2_with fail
  refine(TG.out _ HQ1.out.below).mono ?_;rintro _ w2 ⟨rfl,hb2⟩
  have HQ2:=aA (HQ1.out.on hb2)
  clear x0 x1 x2 x3 hb2 hgr TG TC
  obtain⟨x0,x1,x2,x3⟩:=HXC.out w2 HQ2.out
  go_wp2_with fail
  refine(TCC.out _ HQ2.out.below).mono ?_;rintro _ w3 ⟨g,rfl,hg3,hb3⟩
  have HQ3:=aA (HQ2.out.on hb3)
  have HG3:=aA hg3
  obtain⟨B0,d0,B1,d1,B2,d2,rfl,_⟩:=hg3
  clear x0 x1 x2 x3 hb3 TCC
  have HR4:=aA (One.start w3 #[.slice B0 G.ts.length d0,.slice B1 G.ns.length d1,.slice B2 G.rs.length d2,.int .i64 G.st])
  have HYC:=aA (fun(x:World) (h:One w3 #[.slice B0 G.ts.length d0,.slice B1 G.ns.length d1,.slice B2 G.rs.length d2,.int .i64 G.st] x)=>And.intro (h.c 0 _ rfl) (And.intro (h.c 1 _ rfl) (And.intro (h.c 2 _ rfl) (h.c 3 _ rfl))))
  have HQ4:=aA (HQ3.out.on HR4.out.below)
  go_wp2_with fail
  refine(TP.out w3 _ _ HG3.out HR4.out.below).mono ?_;rintro _ w5 ⟨rfl,hb5⟩
  have HQ5:=aA (HQ4.out.on hb5)
  have HR5:=aA (HR4.out.on hb5)
  obtain⟨x0,x1,x2,x3⟩:=HXC.out w5 HQ5.out
  clear hb5
  go_wp2_with fail
  refine(TP2.out w5 HQ5.out.below).mono ?_;rintro _ w6 ⟨rfl,hb6⟩
  have HQ6:=aA (HQ5.out.on hb6)
  have HR6:=aA (HR5.out.on hb6)
  clear x0 x1 x2 x3 hb6
  obtain⟨y0,y1,y2,y3⟩:=HYC.out w6 HR6.out
  go_wp2_with fail
  refine(TD.out w3 w6 _ HG3.out HR6.out.below HQ6.out.below).mono ?_;rintro _ w7 ⟨rfl,hb7⟩
  have HQ7:=aA (HQ6.out.on hb7)
  have HR7:=aA (HR6.out.on hb7)
  clear y0 y1 y2 y3 hb7
  obtain⟨x0,x1,x2,x3⟩:=HXC.out w7 HQ7.out
  go_wp2_with fail
  refine(TD2.out w7 HQ7.out.below).mono ?_;rintro _ w8 ⟨rfl,hb8⟩
  have HQ8:=aA (HQ7.out.on hb8)
  have HR8:=aA (HR7.out.on hb8)
  clear x0 x1 x2 x3 hb8
  obtain⟨x0,x1,x2,x3⟩:=HXC.out w8 HQ8.out
  obtain⟨y0,y1,y2,y3⟩:=HYC.out w8 HR8.out
  go_wp2_with fail
  refine(TS.out w3 w8 _ HG3.out HR8.out.below HQ8.out.below).mono ?_;rintro _ w9 ⟨rfl,hb9⟩
  have HQ9:=aA (HQ8.out.on hb9)
  clear x0 x1 x2 x3 y0 y1 y2 y3 hb9
  go_wp2
  go_ret
  exact⟨rfl,HQ9.out.below⟩
end Go.Proofs.YtkfelkpilaipnaaGreatDoor
