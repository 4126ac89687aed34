/- Part of the proofs over this program: ShowW, ShowTok, ShowRule, ShowLev, Lefts9, Sym9, Prj9. -/
import Derived.Maps.AppendAt
import Derived.Test.YtkfelkpilaipnaaGreatDoorKJ
namespace Go.Proofs.YtkfelkpilaipnaaGreatDoor
set_option maxRecDepth 100000
set_option maxHeartbeats 40000000
open Go.RowKit
namespace Sh
open Gm
theorem last_take {l:List Int} (k:Nat) (h:k<l.length):last (l.take (k+1))=if 0≤l[k] then l[k] else last (l.take k):=by
 unfold last
 rw[List.take_succ_eq_append_getElem h,List.foldl_append]
 rfl
end Sh
def bU (w:World) (base N:Nat) (A:Option Addr) (ws:List (List Int)):Prop :=
 ws.length≠0→∃(g:Nat) (cur:Array Value),A=some ⟨g,0,none⟩∧base≤g∧g<N∧w.heap[g]?=some (.cells cur 9 (0,0))∧∀j (h:j<ws.length),cur[j]?=some (.string (K.str ws[j]))
abbrev LA:=List (List Int)×Option Addr×Nat
def liC (q:LA):List Value:=[.slice q.2.1 q.1.length q.2.2]
def bV (qs:List LA):List Value:=qs.flatMap liC
def bH (w:World) (base:Nat) (v:Value) (ls:List (List (List Int))):Prop :=
 ∃qs:List LA,qs.map (·.1)=ls∧w.ownsRow base 23 1 v ls.length (bV qs)∧∀q∈qs,q.1.length≤q.2.2∧q.2.2≤9223372036854775807∧bU w 0 w.heap.size q.2.1 q.1
theorem zfL (qs:List LA):(bV qs).length=qs.length:=by
 unfold bV
 induction qs with
 | nil=>rfl
 | cons q r ih=>rw[List.flatMap_cons,List.length_append,ih,List.length_cons];simp[liC];omega
theorem zhS (qs:List LA) (i:Nat):(bV qs)[i]?=(qs[i]?).map fun q=>Value.slice q.2.1 q.1.length q.2.2:=by
 have:bV qs=qs.map fun q=>Value.slice q.2.1 q.1.length q.2.2:=by
  unfold bV liC
  induction qs with
  | nil=>rfl
  | cons q r ih=>rw[List.flatMap_cons,ih];rfl
 rw[this,List.getElem?_map]
theorem bH.nil (w:World) (base:Nat):bH w base (.slice none 0 0) []:=⟨[],rfl,World.ownsRow_nil w base _ _,fun q h=>by cases h⟩
def zfk (w:World) (row:Option Nat):Prop:=∀g,row=some g→∀cur,w.heap[g]? ≠ some (.cells cur 9 (0,0))
theorem zfk.none (w:World):zfk w .none:=fun _ h=>by cases h
theorem bU.grown {w w':World} {base N N':Nat} {A:Option Addr} {ws:List (List Int)} {row:Option Nat} (h:bU w base N A ws) (hg:w.grownBy w' row) (hr:zfk w row) (hN:N≤N'):bU w' base N' A ws:=fun hn=>by
 obtain⟨g,cur,e,hb,h1,hh,hc⟩:=h hn
 exact⟨g,cur,e,hb,by omega,(hg.block g (Array.getElem?_eq_some_iff.1 hh).1 (fun e=>hr g e.symm _ hh)).trans hh,hc⟩
theorem bU.of_own {w:World} {base:Nat} {v:Value} {ws:List (List Int)} (h:bD w base v ws):∃A c,v=.slice A ws.length c∧ws.length≤c∧c≤maxLen∧bU w base w.heap.size A ws:=by
 rcases h.2 with⟨rfl,h0⟩|⟨g,cap,cur,rfl,hb,hg,hn,hm,hs,ht⟩
 ·exact⟨none,0,by rw[h0],by omega,by unfold maxLen;omega,fun hc=>absurd h0 hc⟩
 ·refine⟨some ⟨g,0,none⟩,cap,rfl,hn,hm,fun _=>⟨g,cur,rfl,hb,(Array.getElem?_eq_some_iff.1 hg).1,hg,fun j hj=>?_⟩⟩
  have hj2:(bJ ws)[j]?=some (.string (K.str ws[j])):=by unfold bJ;rw[List.getElem?_map,List.getElem?_eq_getElem hj];rfl
  rw[←ht,List.getElem?_take_of_lt (by omega)]at hj2
  simpa using hj2
theorem bH.form {w:World} {base:Nat} {v:Value} {ls:List (List (List Int))} (h:bH w base v ls):∃A c,v=.slice A ls.length c∧ls.length≤c∧c≤maxLen:=by
 obtain⟨qs,_,h2,_⟩:=h
 exact aU h2
theorem bH.grown {w w':World} {base:Nat} {v:Value} {ls:List (List (List Int))} {row:Option Nat} (h:bH w base v ls) (hg:w.grownBy w' row) (hr:zfk w row) (hv:v.ownBlock=none∨v.ownBlock≠row):bH w' base v ls:=by
 obtain⟨qs,h1,h2,h3⟩:=h
 exact⟨qs,h1,h2.kept hg hv,fun q hq=>⟨(h3 q hq).1,(h3 q hq).2.1,(h3 q hq).2.2.grown hg hr hg.size⟩⟩
theorem bH.below {w w':World} {base:Nat} {v:Value} {ls:List (List (List Int))} (h:bH w base v ls) (hb:Below w.heap.size w w'):bH w' base v ls :=
 h.grown (aQ hb .none) (zfk.none w) (by rcases v.ownBlock with _|k;exact .inl rfl;exact .inr (by simp))
theorem bH.alloc {w:World} {base:Nat} {v:Value} {ls:List (List (List Int))} (h:bH w base v ls) (o:Obj):bH (w.alloc o) base v ls:=h.below ((Below.refl w.heap.size w).alloc (Nat.le_refl _) o)
theorem bH.drewN {w:World} {base:Nat} {v:Value} {ls:List (List (List Int))} (h:bH w base v ls) (n:Nat):bH (w.drewN n) base v ls:=h
theorem bU.below {w w':World} {base:Nat} {A:Option Addr} {ws:List (List Int)} (h:bU w base w.heap.size A ws) (hb:Below w.heap.size w w'):bU w' base w'.heap.size A ws:=h.grown (aQ hb .none) (zfk.none w) hb.size
theorem bU.alloc {w:World} {base:Nat} {A:Option Addr} {ws:List (List Int)} (h:bU w base w.heap.size A ws) (o:Obj):bU (w.alloc o) base (w.alloc o).heap.size A ws:=h.below ((Below.refl w.heap.size w).alloc (Nat.le_refl _) o)
theorem bU.new (w:World) (base n:Nat) (ws:List (List Int)) (cs:Array Value) (hc:cs=((bJ ws).toArray)) (hn:n=w.heap.size) (hb:base≤w.heap.size):bU (w.alloc (.cells cs 9)) base (w.alloc (.cells cs 9)).heap.size (some ⟨n,0,none⟩) ws:=fun _=>by
 subst hc hn
 refine⟨w.heap.size,_,rfl,hb,by simp,heap_alloc_new w _,fun j hj=>?_⟩
 unfold bJ
 rw[List.getElem?_toArray,List.getElem?_map,List.getElem?_eq_getElem hj]
 rfl
theorem bH.less {w:World} {base base':Nat} {v:Value} {ls:List (List (List Int))} (h:bH w base v ls) (hb:base'≤base):bH w base' v ls:=by
 obtain⟨qs,h1,h2,h3⟩:=h
 refine⟨qs,h1,⟨h2.1,?_⟩,h3⟩
 rcases h2.2 with h0|⟨g,cap,cur,e,hb1,hr⟩
 ·exact .inl h0
 ·exact .inr ⟨g,cap,cur,e,by omega,hr⟩
theorem bH.noStr {w:World} {base:Nat} {v:Value} {ls:List (List (List Int))} (h:bH w base v ls):zfk w v.ownBlock:=fun g e cur hc=>by
 obtain⟨qs,_,h2,_⟩:=h
 obtain⟨_,cur',hc'⟩:=aF h2 e
 rw[hc']at hc
 injection hc with hc
 injection hc with _ hc
 exact absurd hc (by decide)
theorem zhI (w:World) (base m:Nat) (T:TypeId) (size n:Nat) (cs:List Value) (hm:m=w.heap.size) (hb:base≤w.heap.size) (hl:cs.length=n*size) (hn:n≤maxLen):(w.alloc (.cells cs.toArray T)).ownsRow base T size (.slice (some ⟨m,0,none⟩) n n) n cs:=by
 subst hm
 refine⟨hl,.inr ⟨w.heap.size,n,cs.toArray,rfl,hb,heap_alloc_new w _,Nat.le_refl _,hn,by simpa using hl,?_⟩⟩
 rw[←hl,List.take_of_length_le (by simp)]
theorem zer (w:World) (q:LA) (n:Nat) (T:TypeId) (hn:n=w.heap.size):∀j u,(bV [q])[j]?=some u→(w.alloc (.cells #[.slice q.2.1 q.1.length q.2.2] T)).cell? ⟨n,j,none⟩=some u:=by
 intro j u hj
 subst hn
 exact(aH w [.slice q.2.1 q.1.length q.2.2] T j).trans hj
theorem zh9:(Tryz.prog.info? 23).map (fun i=>(i.zero,i.size,i.bytes))=some (some (.slice none 0 0),1,24):=by kernel_rfl
theorem zcH {w:World} {ops:Array Oper} {rest:List Oper} {o:Oper} {a:Act} {Q:Exit→Act→World→Prop}
  (hgd:o.guard=none) (s x:Operand) (t:TypeId) (ho:o.op=.call {callee:=.builtin .append,args:=#[s,x],argTypes:=#[t,t]}) (ht:Tryz.prog.underlying t=some (.slice 23))
  (base:Nat) (v:Value) (ls:List (List (List Int))) (hs:a.eval s=v) (hown:bH w base v ls) (A:Option Addr) (m c:Nat) (ys:List LA) (hx:a.eval x=.slice A m c) (hm:m=ys.length)
  (hz:ys≠[]→∃g,A=some ⟨g,0,none⟩∧∀j u,(bV ys)[j]?=some u→w.cell? ⟨g,j,none⟩=some u) (hr:∀q∈ys,q.1.length≤q.2.2∧q.2.2≤9223372036854775807∧bU w 0 w.heap.size q.2.1 q.1)
  (hlen:ls.length+ys.length≤1000000) (hbase:base≤w.heap.size)
  (hK:∀v' w',bH w' base v' (ls++ys.map (·.1))→w.grownBy w' v.ownBlock→wpList Tryz.prog ops Q rest (a.put o.dst v') w') :
  wpList Tryz.prog ops Q (o::rest) a w:=by
 obtain⟨i,hi,hz0,hz1,hz2⟩:=info_parts zh9
 have hns:=hown.noStr
 obtain⟨qs,hq1,hq2,hq3⟩:=hown
 subst hm
 rcases ys with _|⟨y,ys⟩
 ·rcases A with _|ad
  ·have hrun:=zam (P:=Tryz.prog) w base t o.type 23 i 1 ht hi v ls.length _ hq2 c
   refine wpList_plain hgd fun K hK'=>?_
   unfold Oper.wp
   simp[execOp,ho,resolve,invoke,builtin,hs,hx,hrun,Result.andThen]
   exact hK' _ _ (hK v w (by simpa using⟨qs,hq1,hq2,hq3⟩) (World.grownBy.refl _ _))
  ·refine wpList_append_own w hgd s x t ho base 23 i _ 1 24 ht hi hz0 hz1 hz2 rfl (by decide) v ls.length (bV qs) hs hq2 ad 0 c [] hx rfl (fun j u hj=>by simp at hj) (fun u hu=>by cases hu) (by unfold maxLen;omega) (by omega) hbase fun v' w' h1 h2 _=>hK v' w' ?_ h2
   refine⟨qs,by simpa using hq1,by simpa using h1,fun q hq=>⟨(hq3 q hq).1,(hq3 q hq).2.1,(hq3 q hq).2.2.grown h2 hns h2.size⟩⟩
 ·obtain⟨g,rfl,hzc⟩:=hz (by simp)
  refine wpList_append_own w hgd s x t ho base 23 i _ 1 24 ht hi hz0 hz1 hz2 rfl (by decide) v ls.length (bV qs) hs hq2 ⟨g,0,none⟩ (y::ys).length c (bV (y::ys)) hx (by rw[zfL,Nat.mul_one]) ?_ ?_ (by unfold maxLen;omega) (by omega) hbase fun v' w' h1 h2 _=>hK v' w' ?_ h2
  ·intro j u hj
   rw[zdP,Nat.zero_add]
   exact hzc j u hj
  ·intro u hu
   unfold bV at hu
   obtain⟨q,_,hq⟩:=List.mem_flatMap.1 hu
   rw[List.mem_singleton.1 hq];rfl
  ·refine⟨qs++(y::ys),by rw[List.map_append,hq1],?_,fun q hq=>?_⟩
   ·rw[List.length_append,List.length_map]
    unfold bV at h1 ⊢
    rw[List.flatMap_append];exact h1
   ·rcases List.mem_append.1 hq with h|h
    ·exact⟨(hq3 q h).1,(hq3 q h).2.1,(hq3 q h).2.2.grown h2 hns h2.size⟩
    ·exact⟨(hr q h).1,(hr q h).2.1,(hr q h).2.2.grown h2 hns h2.size⟩
theorem zev (A:Option Addr) (c B:Nat) (zs:List Int) (w:World) (hr:RdI w B A zs) (hl:zs.length≤9223372036854775807) :
  Calls Tryz.prog 75 #[.slice A zs.length c] w fun e w'=>e=.returned (.int .i64 (Sh.last zs))∧w'=w:=by
 have HR:=aA hr
 clear hr
 go_enter Tryz.func75,Tryz.ntmps75
 go_wp2
 go_loopw [3,8] (fun vn vi wr=>∃(k:Nat),k≤zs.length∧vi=.int .i64 k∧vn=.int .i64 (Sh.last (zs.take k))∧wr=w) (fun _ vi _=>zs.length-(intOf vi).toNat)
 case atStart=>exact⟨0,Nat.zero_le _,rfl,rfl,rfl⟩
 case round =>
  obtain⟨k,hk,rfl,rfl,rfl⟩:=hrel
  by_cases hlt:k<zs.length
  ·obtain⟨g,o,rfl,_,hc⟩:=HR.out (by omega)
   have k0:=hc k hlt
   have HN:=aA (Sh.last_take k hlt)
   rw[L.gd_lt hlt]at k0
   clear hc
   generalize Sh.last (zs.take k)=a at *
   generalize zs[k]=z at *
   by_cases hz:0≤z
   ·have HE:=aA (HN.out.trans (if_pos hz))
    go_wp2
    go_roundw
    case rel=>exact⟨k+1,by omega,by go_num,by rw[HE.out],trivial⟩
    case measure=>simp[intOf];omega
   ·have HE:=aA (HN.out.trans (if_neg hz))
    go_wp2
    go_roundw
    case rel=>exact⟨k+1,by omega,by go_num,by rw[HE.out],trivial⟩
    case measure=>simp[intOf];omega
  ·obtain rfl:k=zs.length:=by omega
   rw[List.take_length]
   go_wp2
   go_ret
   exact⟨rfl,rfl⟩
theorem zj1 (a:Int) (w:World) :
  Calls Tryz.prog 73 #[.int .i64 a] w fun e w'=>e=.returned (.string (K.str (Sh.wayW a)))∧w=w':=by
 unfold Sh.wayW
 by_cases h1:a=1
 ·subst h1
  go_enter Tryz.func73,Tryz.ntmps73
  go_wp2
  go_ret
  exact⟨rfl,rfl⟩
 by_cases h2:a=2
 ·subst h2
  go_enter Tryz.func73,Tryz.ntmps73
  go_wp2
  go_ret
  exact⟨rfl,rfl⟩
 rw[if_neg h1,if_neg h2]
 have e1:(a==1)=false:=by simpa using h1
 have e2:(a==2)=false:=by simpa using h2
 clear h1 h2
 go_enter Tryz.func73,Tryz.ntmps73
 go_wp2
 go_ret
 exact⟨rfl,rfl⟩
namespace Sh
open Gm
theorem tokens_take {ts:List Tm} (k:Nat) (h:k<ts.length):tokens (ts.take (k+1))=tokens (ts.take k)++[[wToken,ts[k].nm]]:=by
 unfold tokens
 rw[List.take_succ_eq_append_getElem h,List.map_append]
 rfl
theorem tokens_len (ts:List Tm):(tokens ts).length=ts.length:=by unfold tokens;rw[List.length_map]
end Sh
theorem zdz {w:World} {base:Nat} {v:Value} {ls:List (List (List Int))} (h:bH w base v ls) {k:Nat} (hk:v.ownBlock=some k):base≤k:=by
 obtain⟨_,_,h2,_⟩:=h
 exact(aF h2 hk).1
theorem zf2 (A:Option Addr) (c B:Nat) (ts:List Gm.Tm) (w:World) (hr:zgS w B A ts) (hB:B≤w.heap.size) (hl:ts.length≤1000) :
  Calls Tryz.prog 43 #[.slice A ts.length c] w fun e w'=>∃v,e=.returned v∧bH w' w.heap.size v (Sh.tokens ts)∧Below w.heap.size w w':=by
 have HR:=aA hr
 clear hr
 go_enter Tryz.func43,Tryz.ntmps43
 go_wp2
 go_loopw [3,8] (fun vl vi wr=>∃(k:Nat),k≤ts.length∧vi=.int .i64 k∧bH wr w.heap.size vl (Sh.tokens (ts.take k))∧Below w.heap.size w wr) (fun _ vi _=>ts.length-(intOf vi).toNat)
 case atStart=>exact⟨0,Nat.zero_le _,rfl,bH.nil _ _,Below.refl _ _⟩
 case round =>
  obtain⟨k,hk,rfl,ho,hb⟩:=hrel
  have HB:=aA hb
  obtain⟨A1,c1,hA1,_,_⟩:=ho.form
  rw[show(Sh.tokens (ts.take k)).length=k by rw[Sh.tokens_len,List.length_take];omega]at hA1
  subst hA1
  have HO:=aA ho
  by_cases hlt:k<ts.length
  ·obtain⟨g,o,rfl,hgB,hc⟩:=HR.out (by omega)
   have hgw:g<w.heap.size:=by omega
   have k0:=(hb.cell (p:=⟨g,o+k*3,none⟩) hgw).trans (hc k hlt).1
   have k1:=(hb.cell (p:=⟨g,o+k*3+1,none⟩) hgw).trans (hc k hlt).2.1
   have k2:=(hb.cell (p:=⟨g,o+k*3+2,none⟩) hgw).trans (hc k hlt).2.2
   have hgs:g<wr.heap.size:=by have:=hb.size;omega
   have HN:=aA (Sh.tokens_take k hlt)
   have HS:=aA hb.size
   have HRW:=aA (((bU.new (wr.alloc (.cells #[.string (K.str ts[k].nm),.int .i64 ts[k].lv,.int .i64 ts[k].wy] 51)) 0 (wr.heap.size+1) [Sh.wToken,ts[k].nm] _ rfl (by simp) (Nat.zero_le _))).alloc (.cells (liC ([Sh.wToken,ts[k].nm],some ⟨wr.heap.size+1,0,none⟩,2)).toArray 23))
   have HO3:=aA (((ho.alloc (.cells #[.string (K.str ts[k].nm),.int .i64 ts[k].lv,.int .i64 ts[k].wy] 51)).alloc (.cells (bJ [Sh.wToken,ts[k].nm]).toArray 9)).alloc (.cells (liC ([Sh.wToken,ts[k].nm],some ⟨wr.heap.size+1,0,none⟩,2)).toArray 23))
   have HB3:=aA (((hb.alloc hb.size (.cells #[.string (K.str ts[k].nm),.int .i64 ts[k].lv,.int .i64 ts[k].wy] 51)).alloc (by have:=hb.size;simp;omega) (.cells (bJ [Sh.wToken,ts[k].nm]).toArray 9)).alloc (by have:=hb.size;simp;omega) (.cells (liC ([Sh.wToken,ts[k].nm],some ⟨wr.heap.size+1,0,none⟩,2)).toArray 23))
   clear hc ho hb
   generalize ts[k].nm=nm at *
   generalize ts[k].lv=lv at *
   generalize ts[k].wy=wy at *
   go_wp2_with (at_builtin;(refine zcH rfl (.tmp 12) (.tmp 16) _ rfl Tryz.underlying48 w.heap.size _ (Sh.tokens (ts.take k)) rfl HO3.out _ 1 1 [([Sh.wToken,nm],some ⟨wr.heap.size+1,0,none⟩,2)] rfl rfl (fun _=>⟨_,rfl,zer _ _ _ _ (by simp)⟩) (fun q hq=>by rw[List.mem_singleton.1 hq];exact⟨by simp,by show(2:Nat)≤_;omega,HRW.out⟩) (by rw[Sh.tokens_len,List.length_take];simp;omega) (by have:=HS.out;simp;omega) ?_;intro v4 w4 ho4 hg4))
   have HB4:=aA (HB3.out.grown hg4 (by have:=HS.out;simp;omega) (fun e h=>zdz HO3.out h))
   have HO4:=aA ho4
   clear ho4 hg4
   go_roundw
   case rel=>exact⟨k+1,by omega,by go_num,by rw[HN.out];exact HO4.out,HB4.out⟩
   case measure=>simp[intOf];omega
  ·obtain rfl:k=ts.length:=by omega
   rw[List.take_length]at HO
   clear ho hb
   go_wp2
   go_ret
   exact⟨_,rfl,HO.out,HB.out⟩
def bO (w:World) (a b:Array Value) (wr:World):Prop:=Below (w.heap.size+2) ((w.alloc (.cells a 26)).alloc (.cells b 45)) wr
theorem bO.start (w:World) (a b:Array Value):bO w a b ((w.alloc (.cells a 26)).alloc (.cells b 45)):=Below.refl _ _
theorem bO.size {w wr:World} {a b:Array Value} (h:bO w a b wr):w.heap.size+2≤wr.heap.size:=by have:=Below.size h;simpa using this
theorem bO.below {w wr:World} {a b:Array Value} (h:bO w a b wr):Below w.heap.size w wr:=(((Below.refl w.heap.size w).alloc (Nat.le_refl _) _).alloc (by simp) _).trans (Below.mono h (by omega))
theorem bO.on {w wr wt:World} {a b:Array Value} (h:bO w a b wr) (k:Below wr.heap.size wr wt):bO w a b wt:=Below.trans h (k.mono h.size)
theorem bO.drewN {w wr:World} {a b:Array Value} (h:bO w a b wr) (n:Nat):bO w a b (wr.drewN n):=aB h n
theorem bO.alloc {w wr:World} {a b:Array Value} (h:bO w a b wr) (o:Obj):bO w a b (wr.alloc o):=Below.alloc h h.size o
theorem bO.c0 {w wr:World} {a b:Array Value} (h:bO w a b wr) (j:Nat) (u:Value) (hj:a[j]?=some u):wr.cell? ⟨w.heap.size,j,none⟩=some u:=by
 have b0:=(Below.block h w.heap.size (by omega)).trans (show((w.alloc (.cells a 26)).alloc (.cells b 45)).heap[w.heap.size]?=_ from((((Below.refl _ (w.alloc (.cells a 26))).alloc (Nat.le_refl _) _).block w.heap.size (by simp)).trans (heap_alloc_new w _)))
 exact(cell_of_row wr _ j _ _ _ b0).trans hj
theorem bO.c1 {w wr:World} {a b:Array Value} (h:bO w a b wr) (j:Nat) (u:Value) (hj:b[j]?=some u):wr.cell? ⟨w.heap.size+1,j,none⟩=some u:=by
 have e:=heap_alloc_new (w.alloc (.cells a 26)) (.cells b 45)
 rw[show(w.alloc (.cells a 26)).heap.size=w.heap.size+1 by simp]at e
 have b0:=(Below.block h (w.heap.size+1) (by omega)).trans e
 exact(cell_of_row wr _ j _ _ _ b0).trans hj
theorem bD.alloc {w:World} {base:Nat} {v:Value} {ws:List (List Int)} (h:bD w base v ws) (o:Obj):bD (w.alloc o) base v ws:=World.ownsRow.alloc h o
theorem bD.less {w:World} {base base':Nat} {v:Value} {ws:List (List Int)} (h:bD w base v ws) (hb:base'≤base):bD w base' v ws:=by
 refine⟨h.1,?_⟩
 rcases h.2 with h0|⟨g,cap,cur,e,hb1,hr⟩
 ·exact .inl h0
 ·exact .inr ⟨g,cap,cur,e,by omega,hr⟩
theorem bD.drewN {w:World} {base:Nat} {v:Value} {ws:List (List Int)} (h:bD w base v ws) (n:Nat):bD (w.drewN n) base v ws:=h
theorem bD.below {w w':World} {base:Nat} {v:Value} {ws:List (List Int)} (h:bD w base v ws) (hb:Below w.heap.size w w'):bD w' base v ws :=
 World.ownsRow.kept h (aQ hb .none) (by rcases v.ownBlock with _|k;exact .inl rfl;exact .inr (by simp))
theorem bO.own {w wr w':World} {a b:Array Value} {v:Value} {ws:List (List Int)} (h:bO w a b wr) (ho:bD wr (w.heap.size+2) v ws) (hg:wr.grownBy w' v.ownBlock):bO w a b w':=Below.grown h hg h.size (fun _ e=>(aF ho e).1)
theorem bD.form {w:World} {base:Nat} {v:Value} {ws:List (List Int)} (h:bD w base v ws):∃A c,v=.slice A ws.length c∧ws.length≤c∧c≤maxLen:=aU h
theorem zjx {w:World} {ops:Array Oper} {rest:List Oper} {o:Oper} {a:Act} {Q:Exit→Act→World→Prop}
  (hgd:o.guard=none) (s x:Operand) (t:TypeId) (ho:o.op=.call {callee:=.builtin .append,args:=#[s,x],argTypes:=#[t,t]}) (ht:Tryz.prog.underlying t=some (.slice 9))
  (base:Nat) (v:Value) (ts:List (List Int)) (hs:a.eval s=v) (hown:bD w base v ts) (g m c:Nat) (ys:List (List Int)) (hx:a.eval x=.slice (some ⟨g,0,none⟩) m c) (hm:m=ys.length) (hz:∀j u,(bJ ys)[j]?=some u→w.cell? ⟨g,j,none⟩=some u)
  (hlen:ts.length+ys.length≤1000000) (hbase:base≤w.heap.size)
  (hK:∀v' w',bD w' base v' (ts++ys)→w.grownBy w' v.ownBlock→wpList Tryz.prog ops Q rest (a.put o.dst v') w') :
  wpList Tryz.prog ops Q (o::rest) a w:=by
 obtain⟨i,hi,hz0,hz1,hz2⟩:=info_parts zfR
 subst hm
 refine wpList_append_own w hgd s x t ho base 9 i _ 1 16 ht hi hz0 hz1 hz2 rfl (by decide) v ts.length (bJ ts) hs hown ⟨g,0,none⟩ ys.length c (bJ ys) hx (by unfold bJ;simp) ?_ ?_ (by unfold maxLen;omega) (by omega) hbase fun v' w' h1 h2 _=>hK v' w' ?_ h2
 ·intro j u hj
  rw[zdP,Nat.zero_add]
  exact hz j u hj
 ·intro u hu
  unfold bJ at hu
  obtain⟨y,_,rfl⟩:=List.mem_map.1 hu
  rfl
 ·unfold bD bJ
  rw[List.length_append,List.map_append];exact h1
theorem zjb (w:World) (ys:List (List Int)) (cs:Array Value) (n:Nat) (T:TypeId) (hn:n=w.heap.size) (hc:cs=(bJ ys).toArray):∀j u,(bJ ys)[j]?=some u→(w.alloc (.cells cs T)).cell? ⟨n,j,none⟩=some u:=by
 intro j u hj
 subst hn hc
 exact(aH w (bJ ys) T j).trans hj
namespace Sh
open Gm
def ruleHead (G:Gr) (r:Rl) (k:Nat):List (List Int):=G.ns.getD r.l.toNat []::wColon::(r.r.take k).map (name G)
theorem ruleHead_next {G:Gr} {r:Rl} {k:Nat} (h:k<r.r.length):ruleHead G r (k+1)=ruleHead G r k++[name G r.r[k]]:=by
 unfold ruleHead
 rw[List.take_succ_eq_append_getElem h,List.map_append]
 rfl
theorem ruleHead_len (G:Gr) (r:Rl) (k:Nat) (h:k≤r.r.length):(ruleHead G r k).length=k+2:=by
 unfold ruleHead
 simp
 omega
theorem rule_same {G:Gr} {r:Rl} (h:r.p=last r.r):rule G r=ruleHead G r r.r.length++[wSemi]:=by
 unfold rule ruleHead
 rw[if_pos h,List.take_length]
 simp
theorem rule_other {G:Gr} {r:Rl} (h:r.p≠last r.r):rule G r=(ruleHead G r r.r.length++[wPrec,name G r.p])++[wSemi]:=by
 unfold rule ruleHead
 rw[if_neg h,List.take_length]
 simp
end Sh
theorem zhe (v:Value) (G:Gm.Gr) (B:Nat) (x:Gm.Rl) (A:Option Addr) (c:Nat) (w:World) (hg:bC w B v G) (hr:RdI w B A x.r) (hx:∀z∈x.r,Gm.In z) (hp:Gm.In x.p) (hB:B≤w.heap.size) (hl0:0≤x.l) (hl1:x.l<G.ns.length) (hlen:x.r.length≤1000) :
  Calls Tryz.prog 45 #[v,.agg #[.int .i64 x.l,.slice A x.r.length c,.int .i64 x.p]] w fun e w'=>∃v',e=.returned v'∧bD w' w.heap.size v' (Sh.rule G x)∧Below w.heap.size w w':=by
 have HG:=aA hg
 obtain⟨AT,cT,AN,cN,AR,cR,rfl,_,⟨hln,hmn⟩,_,ht,hn,_⟩:=hg
 obtain⟨i,hi⟩:∃i:Nat,x.l=(i:Int):=⟨x.l.toNat,by omega⟩
 obtain⟨gn,on,rfl,hgn,hcn⟩:=hn (by omega)
 have n0:=hcn i (by omega)
 have hgnw:gn<w.heap.size:=by omega
 have HS0:=aA (bO.start w #[.slice AT G.ts.length cT,.slice (some ⟨gn,on,none⟩) G.ns.length cN,.slice AR G.rs.length cR,.int .i64 G.st] #[.int .i64 x.l,.slice A x.r.length c,.int .i64 x.p])
 have HR:=aA hr
 have HX:=aA (And.intro hx hp)
 have hi2:(i:Int)<(G.ns.length:Int):=by omega
 have HH0:Hid (Sh.ruleHead G x 0=[G.ns[i],Sh.wColon]):=aA (by unfold Sh.ruleHead;rw[hi,show((i:Int)).toNat=i from rfl,Sh.getD_at _ _ _ (by omega)];rfl)
 clear hcn hr hx hp ht hn
 rw[hi]at HS0 ⊢
 generalize G.ns[i]=nm at *
 have HON:=aA (zhI ((w.alloc (.cells #[.slice AT G.ts.length cT,.slice (some ⟨gn,on,none⟩) G.ns.length cN,.slice AR G.rs.length cR,.int .i64 G.st] 26)).alloc (.cells #[.int .i64 i,.slice A x.r.length c,.int .i64 x.p] 45)) (w.heap.size+2) (w.heap.size+1+1) 9 1 2 (bJ [nm,Sh.wColon]) (by simp) (by simp) rfl (by unfold maxLen;omega))
 go_enter Tryz.func45,Tryz.ntmps45
 go_wp2
 go_loopw [5,18] (fun vl vi wr=>∃(k:Nat),k≤x.r.length∧vi=.int .i64 k∧bD wr (w.heap.size+2) vl (Sh.ruleHead G x k)∧bO w #[.slice AT G.ts.length cT,.slice (some ⟨gn,on,none⟩) G.ns.length cN,.slice AR G.rs.length cR,.int .i64 G.st] #[.int .i64 i,.slice A x.r.length c,.int .i64 x.p] wr) (fun _ vi _=>x.r.length-(intOf vi).toNat)
 case atStart =>
  refine⟨0,Nat.zero_le _,rfl,?_,HS0.out.alloc _⟩
  rw[HH0.out]
  exact HON.out
 case round =>
  obtain⟨k,hk,rfl,ho,hb⟩:=hrel
  have HB:=aA hb
  obtain⟨A1,c1,hA1,_,_⟩:=ho.form
  rw[Sh.ruleHead_len G x k hk]at hA1
  subst hA1
  have HO:=aA ho
  have hbw:=hb.below
  have HS:=aA hb.size
  have q0:=hb.c0 0 _ rfl
  have q1:=hb.c0 1 _ rfl
  have q2:=hb.c0 2 _ rfl
  have q3:=hb.c0 3 _ rfl
  have r0:=hb.c1 0 _ rfl
  have r1:=hb.c1 1 _ rfl
  have r2:=hb.c1 2 _ rfl
  have hz0:w.heap.size<wr.heap.size:=by have:=hb.size;omega
  have hz1:w.heap.size+1<wr.heap.size:=by have:=hb.size;omega
  by_cases hlt:k<x.r.length
  ·obtain⟨g,o,rfl,hgB,hc⟩:=HR.out (by omega)
   have k0:=(hbw.cell (p:=⟨g,o+k,none⟩) (by simp only;omega)).trans (hc k hlt)
   rw[L.gd_lt hlt]at k0
   have HNM:=aA (fun(y:World) (h:bO w #[.slice AT G.ts.length cT,.slice (some ⟨gn,on,none⟩) G.ns.length cN,.slice AR G.rs.length cR,.int .i64 G.st] #[.int .i64 i,.slice (some ⟨g,o,none⟩) x.r.length c,.int .i64 x.p] y)=>zex _ G B x.r[k] (HX.out.1 _ (List.getElem_mem hlt)) y (HG.out.below h.below hB) (Nat.le_trans hB h.below.size))
   have HN:=aA (Sh.ruleHead_next (G:=G) hlt)
   clear hc ho hb hbw
   generalize x.r[k]=z at *
   go_wp2_with fail
   refine(HNM.out _ HB.out).mono ?_;rintro _ w2 ⟨rfl,hb2⟩
   have HB2:=aA (HB.out.on hb2)
   have HO2:=aA (HO.out.below hb2)
   have HS2:Hid (w.heap.size+2≤w2.heap.size):=aA (HB.out.on hb2).size
   have HCE:=aA (aH w2 [.string (K.str (Gm.name G z))] 9 0)
   clear hb2
   generalize Gm.name G z=nz at *
   go_wp2_with (at_builtin;(refine zdO rfl (.tmp 22) (.tmp 26) _ rfl Tryz.underlying23 (w.heap.size+2) _ (Sh.ruleHead G x k) rfl (HO2.out.alloc _) w2.heap.size 1 nz rfl HCE.out (by rw[Sh.ruleHead_len G x k hk];omega) (by have:=HS2.out;simp;omega) ?_;intro v4 w4 ho4 hg4))
   have HB4:=aA (bO.own (HB2.out.alloc _) (HO2.out.alloc _) hg4)
   have HO4:=aA ho4
   clear ho4 hg4
   go_roundw
   case rel=>exact⟨k+1,by omega,by go_num,by rw[HN.out];exact HO4.out,HB4.out⟩
   case measure=>simp[intOf];omega
  ·obtain rfl:k=x.r.length:=by omega
   have HLT:=aA (fun(y:World) (h:bO w #[.slice AT G.ts.length cT,.slice (some ⟨gn,on,none⟩) G.ns.length cN,.slice AR G.rs.length cR,.int .i64 G.st] #[.int .i64 i,.slice A x.r.length c,.int .i64 x.p] y)=>zev A c B x.r y (HR.out.below h.below hB) (by omega))
   clear ho hb hbw
   by_cases hs:x.p=Sh.last x.r
   ·have HE:=aA (Sh.rule_same (G:=G) hs)
    have hs':(x.p != Sh.last x.r)=false:=by simp[hs]
    clear hs
    generalize Sh.last x.r=zl at *
    generalize x.p=zp at *
    go_wp2_with fail
    go_quiet ((go_at_call 75;(exact Calls.quiet_of_same (HLT.out _ (HB.out.drewN _)))))
    have HCE:=aA (aH (wr.drewN nq) [.string (K.str Sh.wSemi)] 9 0)
    go_wp2_with (at_builtin;(refine zdO rfl (.tmp 42) (.tmp 43) _ rfl Tryz.underlying23 (w.heap.size+2) _ (Sh.ruleHead G x x.r.length) rfl ((HO.out.drewN nq).alloc _) wr.heap.size 1 Sh.wSemi rfl HCE.out (by rw[Sh.ruleHead_len G x _ (Nat.le_refl _)];omega) (by have:=HS.out;simp;omega) ?_;intro v4 w4 ho4 hg4))
    have HB4:=aA (bO.own ((HB.out.drewN nq).alloc _) ((HO.out.drewN nq).alloc _) hg4)
    have HO4:=aA ho4
    clear ho4 hg4
    go_ret
    exact⟨_,rfl,by rw[HE.out];exact HO4.out.less (by omega),HB4.out.below⟩
   ·have HE:=aA (Sh.rule_other (G:=G) hs)
    have hs':(x.p != Sh.last x.r)=true:=by simpa using hs
    clear hs
    have HNM:=aA (fun(y:World) (h:bO w #[.slice AT G.ts.length cT,.slice (some ⟨gn,on,none⟩) G.ns.length cN,.slice AR G.rs.length cR,.int .i64 G.st] #[.int .i64 i,.slice A x.r.length c,.int .i64 x.p] y)=>zex _ G B x.p HX.out.2 y (HG.out.below h.below hB) (Nat.le_trans hB h.below.size))
    generalize Sh.last x.r=zl at *
    generalize x.p=zp at *
    go_wp2_with fail
    go_quiet ((go_at_call 75;(exact Calls.quiet_of_same (HLT.out _ (HB.out.drewN _)))))
    go_wp2_with fail
    refine(HNM.out _ (HB.out.drewN nq)).mono ?_;rintro _ w2 ⟨rfl,hb2⟩
    have HB2:=aA ((HB.out.drewN nq).on hb2)
    have HO2:=aA ((HO.out.drewN nq).below hb2)
    have HS2:Hid (w.heap.size+2≤w2.heap.size):=aA ((HB.out.drewN nq).on hb2).size
    clear hb2
    generalize Gm.name G zp=nz at *
    have HCE:=aA (zjb w2 [Sh.wPrec,nz] _ w2.heap.size 9 rfl rfl)
    go_wp2_with (first|(at_builtin;(refine zjx rfl (.tmp 35) (.tmp 40) _ rfl Tryz.underlying23 (w.heap.size+2) _ (Sh.ruleHead G x x.r.length) rfl (HO2.out.alloc _) w2.heap.size 2 _ [Sh.wPrec,nz] rfl rfl HCE.out (by rw[Sh.ruleHead_len G x _ (Nat.le_refl _)];simp;omega) (by have:=HS2.out;simp;omega) ?_;intro v4 w4 ho4 hg4))|(at_builtin;(refine zdO rfl (.tmp 42) (.tmp 43) _ rfl Tryz.underlying23 (w.heap.size+2) _ (Sh.ruleHead G x x.r.length++[Sh.wPrec,nz]) rfl (bD.alloc ho4 _) w4.heap.size 1 Sh.wSemi rfl (aH w4 [.string (K.str Sh.wSemi)] 9 0) (by rw[List.length_append,Sh.ruleHead_len G x _ (Nat.le_refl _)];simp;omega) (by have:=HS2.out;have:=hg4.size;simp at *;omega) ?_;intro v5 w5 ho5 hg5)))
    have HB5:=aA (bO.own ((bO.own (HB2.out.alloc _) (HO2.out.alloc _) hg4).alloc _) (bD.alloc ho4 _) hg5)
    have HO5:=aA ho5
    clear ho4 hg4 ho5 hg5
    go_ret
    exact⟨_,rfl,by rw[HE.out];exact HO5.out.less (by omega),HB5.out.below⟩
namespace Sh
open Gm
theorem top_take {ts:List Tm} (k:Nat) (h:k<ts.length):top (ts.take (k+1))=if top (ts.take k)<ts[k].lv then ts[k].lv else top (ts.take k):=by
 unfold top
 rw[List.take_succ_eq_append_getElem h,List.foldl_append]
 rfl
theorem zgp {ts:List Tm} (n:Int) (k:Nat) (h:k<ts.length):onLev (ts.take (k+1)) n=if ts[k].lv=n then onLev (ts.take k) n++[ts[k]] else onLev (ts.take k) n:=by
 unfold onLev
 rw[List.take_succ_eq_append_getElem h,List.filter_append,List.filter_cons]
 by_cases e:ts[k].lv=n
 ·rw[if_pos (by simpa using e),if_pos e,List.filter_nil]
 ·rw[if_neg (by simpa using e),if_neg e,List.filter_nil,List.append_nil]
theorem zc9 {ts:List Tm} (n:Int) (k:Nat) (h:k<ts.length):level (ts.take (k+1)) n=if ts[k].lv=n then(if level (ts.take k) n=[] then [wayW ts[k].wy] else level (ts.take k) n)++[ts[k].nm] else level (ts.take k) n:=by
 unfold level
 rw[zgp n k h]
 by_cases e:ts[k].lv=n
 ·rw[if_pos e,if_pos e]
  rcases hq:onLev (ts.take k) n with _|⟨t,r⟩
  ·simp
  ·simp
 ·rw[if_neg e,if_neg e]
theorem level_len (ts:List Tm) (n:Int):(level ts n).length≤ts.length+1:=by
 have h:(onLev ts n).length≤ts.length:=List.length_filter_le _ _
 unfold level
 rcases hq:onLev ts n with _|⟨t,r⟩
 ·simp
 ·rw[hq]at h;simp at h ⊢;omega
def lvls (ts:List Tm) (m k:Nat):List (List (List Int)):=(List.range m).map fun i=>level (ts.take k) ((i+1:Nat):Int)
theorem lvls_len (ts:List Tm) (m k:Nat):(lvls ts m k).length=m:=by unfold lvls;simp
theorem lvls_at (ts:List Tm) (m k i:Nat) (h:i<(lvls ts m k).length):(lvls ts m k)[i]=level (ts.take k) ((i+1:Nat):Int):=by
 unfold lvls
 simp
theorem lvls_none {ts:List Tm} {m k:Nat} (h:k<ts.length) (h0:ts[k].lv=0):lvls ts m (k+1)=lvls ts m k:=by
 unfold lvls
 refine List.map_congr_left fun i _=>?_
 rw[zc9 _ k h,if_neg (by omega)]
theorem lvls_some {ts:List Tm} {m k i:Nat} (h:k<ts.length) (h0:ts[k].lv=((i+1:Nat):Int)):lvls ts m (k+1)=(lvls ts m k).set i ((if level (ts.take k) ((i+1:Nat):Int)=[] then [wayW ts[k].wy] else level (ts.take k) ((i+1:Nat):Int))++[ts[k].nm]):=by
 apply List.ext_getElem
 ·rw[List.length_set,lvls_len,lvls_len]
 ·intro j h1 h2
  rw[lvls_at,List.getElem_set]
  rw[zc9 _ k h]
  by_cases e:i=j
  ·subst e
   rw[if_pos h0,if_pos rfl]
  ·rw[if_neg (by omega),if_neg e,lvls_at]
theorem lvls_end (ts:List Tm):lvls ts (top ts).toNat ts.length=levels ts:=by
 unfold lvls levels
 rw[List.take_length]
theorem lvls_start (ts:List Tm) (m:Nat):lvls ts m 0=List.replicate m []:=by
 apply List.ext_getElem
 ·rw[lvls_len,List.length_replicate]
 ·intro j h1 h2
  rw[lvls_at,List.getElem_replicate]
  rfl
end Sh
structure OwnLv (w:World) (base O:Nat) (vals:List Value) (ls:List (List (List Int))):Prop where
 n:vals.length=ls.length
 b:w.heap[O]?=some (.cells vals.toArray 23 (0,0))
 o:∀i (h:i<vals.length) (h':i<ls.length),bD w base vals[i] ls[i]
 d:∀i j (hi:i<vals.length) (hj:j<vals.length),i≠j→∀g,vals[i].ownBlock=some g→vals[j].ownBlock≠some g
theorem OwnLv.below {w w':World} {base O:Nat} {vals:List Value} {ls:List (List (List Int))} (h:OwnLv w base O vals ls) (hb:Below w.heap.size w w'):OwnLv w' base O vals ls :=
 ⟨h.n,(hb.block O (Array.getElem?_eq_some_iff.1 h.b).1).trans h.b,fun i hi hi'=>(h.o i hi hi').below hb,h.d⟩
theorem OwnLv.cell {w:World} {base O:Nat} {vals:List Value} {ls:List (List (List Int))} (h:OwnLv w base O vals ls) (i:Nat) (hi:i<vals.length):w.cell? ⟨O,i,none⟩=some vals[i]:=by
 rw[cell_of_row w O i _ _ _ h.b,List.getElem?_toArray,List.getElem?_eq_getElem hi]
theorem OwnLv.frozen {w:World} {base O:Nat} {vals:List Value} {ls:List (List (List Int))} (h:OwnLv w base O vals ls) (i:Nat):w.frozen? ⟨O,i,none⟩=false:=frozen_of_row w O i _ _ h.b
theorem OwnLv.lt {w:World} {base O:Nat} {vals:List Value} {ls:List (List (List Int))} (h:OwnLv w base O vals ls):O<w.heap.size:=(Array.getElem?_eq_some_iff.1 h.b).1
theorem bD.notRow {w:World} {base:Nat} {v:Value} {ws:List (List Int)} (h:bD w base v ws) {O:Nat} (hO:O<base):v.ownBlock≠some O:=fun e=>by
 have:=(aF h e).1
 omega
theorem OwnLv.put {w w':World} {base O:Nat} {vals:List Value} {ls:List (List (List Int))} (h:OwnLv w base O vals ls) (hO:O<base) (i:Nat) (hi:i<vals.length) (hg:w.grownBy w' vals[i].ownBlock) (v':Value) (l':List (List Int)) (ho:bD w' base v' l') (hl:∀g,v'.ownBlock=some g→vals[i].ownBlock=some g∨w.heap.size≤g) :
  OwnLv (w'.setCell ⟨O,i,none⟩ v') base O (vals.set i v') (ls.set i l'):=by
 have hli:i<ls.length:=by rw[←h.n];exact hi
 have hbk:w'.heap[O]?=some (.cells vals.toArray 23 (0,0)):=(hg.block O h.lt (fun e=>((h.o i hi hli).notRow hO) e.symm)).trans h.b
 refine⟨by rw[List.length_set,List.length_set,h.n],?_,fun j hj hj'=>?_,fun j k hj hk hjk g hgj=>?_⟩
 ·rw[heap_setCell_same w' O i _ _ _ hbk]
  simp
 ·rw[List.length_set]at hj hj'
  have keep:∀ {v:Value} {l:List (List Int)},bD w' base v l→bD (w'.setCell ⟨O,i,none⟩ v') base v l:=fun q=>ownsRow_setCell_below q hO v'
  by_cases e:i=j
  ·subst e
   rw[List.getElem_set_self,List.getElem_set_self]
   exact keep ho
  ·rw[List.getElem_set_ne e,List.getElem_set_ne e]
   refine keep (World.ownsRow.kept (h.o j hj hj') hg ?_)
   rcases hv:vals[j].ownBlock with _|g
   ·exact .inl rfl
   ·refine .inr fun q=>?_
    exact h.d j i hj hi (fun q=>e q.symm) g hv q.symm
 ·rw[List.length_set]at hj hk
  by_cases ej:i=j
  ·subst ej
   rw[List.getElem_set_self]at hgj
   rw[List.getElem_set_ne hjk]
   intro q
   rcases hl g hgj with q1|q1
   ·exact h.d i k hj hk hjk g q1 q
   ·obtain⟨_,cur,hc⟩:=aF (h.o k hk (by rw[←h.n];exact hk)) q
    have:=(Array.getElem?_eq_some_iff.1 hc).1
    omega
  ·rw[List.getElem_set_ne ej]at hgj
   by_cases ek:i=k
   ·subst ek
    rw[List.getElem_set_self]
    intro q
    rcases hl g q with q1|q1
    ·exact h.d j i hj hk hjk g hgj q1
    ·obtain⟨_,cur,hc⟩:=aF (h.o j hj (by rw[←h.n];exact hj)) hgj
     have:=(Array.getElem?_eq_some_iff.1 hc).1
     omega
   ·rw[List.getElem_set_ne ek]
    exact h.d j k hj hk hjk g hgj
theorem OwnLv.own {w:World} {base base' O:Nat} {vals:List Value} {ls:List (List (List Int))} (h:OwnLv w base O vals ls) (hO:base'≤O) (hm:ls.length≤maxLen):bH w base' (.slice (some ⟨O,0,none⟩) ls.length ls.length) ls:=by
 obtain⟨qs,hq,hp⟩:=zdD ls.length (fun i (q:LA)=>∃(hi:i<ls.length) (hv:i<vals.length),q.1=ls[i]∧vals[i]=.slice q.2.1 q.1.length q.2.2∧q.1.length≤q.2.2∧q.2.2≤9223372036854775807∧bU w 0 w.heap.size q.2.1 q.1) (fun i hi=>by
  have hv:i<vals.length:=by rw[h.n];exact hi
  obtain⟨A,c,e,h1,h2,h3⟩:=bU.of_own ((h.o i hv hi).less (Nat.zero_le base))
  exact⟨(ls[i],A,c),hi,hv,rfl,e,h1,by unfold maxLen at h2;simp only;omega,h3⟩)
 refine⟨qs,?_,⟨?_,.inr ⟨O,ls.length,vals.toArray,rfl,hO,h.b,Nat.le_refl _,hm,by simp[h.n],?_⟩⟩,fun q hqm=>?_⟩
 ·apply List.ext_getElem
  ·rw[List.length_map,hq]
  ·intro i h1 h2
   rw[List.getElem_map]
   obtain⟨_,_,e,_⟩:=hp i (by rw[hq];exact h2)
   exact e
 ·rw[zfL,hq,Nat.mul_one]
 ·rw[Nat.mul_one,List.take_of_length_le (by simp[h.n])]
  apply List.ext_getElem?
  intro i
  rw[zhS]
  by_cases hi:i<ls.length
  ·obtain⟨_,hv,_,e,_⟩:=hp i (by rw[hq];exact hi)
   have e1:qs[i]?=some qs[i]:=List.getElem?_eq_getElem (by rw[hq];exact hi)
   have e2:vals.toArray.toList[i]?=some vals[i]:=List.getElem?_eq_getElem hv
   rw[e1,e2,e]
   rfl
  ·rw[List.getElem?_eq_none (by simp[h.n];omega),List.getElem?_eq_none (by rw[hq];omega)]
   rfl
 ·obtain⟨i,hi,rfl⟩:=List.getElem_of_mem hqm
  obtain⟨_,_,_,_,h1,h2,h3⟩:=hp i hi
  exact⟨h1,h2,h3⟩
theorem zbk {w:World} {o:Oper} {a:Act} {KK:Act→World→Prop} {Q:Exit→Act→World→Prop}
  (s x:Operand) (t:TypeId) (ho:o.op=.call {callee:=.builtin .append,args:=#[s,x],argTypes:=#[t,t]}) (ht:Tryz.prog.underlying t=some (.slice 9))
  (base:Nat) (v:Value) (ts:List (List Int)) (hs:a.eval s=v) (hown:bD w base v ts) (g c:Nat) (y:List Int) (hx:a.eval x=.slice (some ⟨g,0,none⟩) 1 c) (hz:w.cell? ⟨g,0,none⟩=some (.string (K.str y)))
  (hlen:ts.length≤1000000) (hbase:base≤w.heap.size)
  (hK:∀v' w',bD w' base v' (ts++[y])→w.grownBy w' v.ownBlock→(v'.ownBlock=v.ownBlock∨v'.ownBlock=some w.heap.size)→KK (a.put o.dst v') w') :
  o.wp Tryz.prog a w KK Q:=by
 obtain⟨i,hi,hz0,hz1,hz2⟩:=info_parts zfR
 obtain⟨v',w',hr,h2,h3,h4,h5⟩:=run_append_own_at (P:=Tryz.prog) w base t o.type 9 i (.string ⟨#[]⟩) 1 16 ht hi hz0 hz1 hz2 rfl (by decide) v ts.length (bJ ts) hown ⟨g,0,none⟩ 1 c [.string (K.str y)] rfl (by
  intro j u hj
  rw[zdP,Nat.zero_add]
  rcases j with _|j
  ·simp at hj;rw[←hj];exact hz
  ·simp at hj) (by intro u hu;simp at hu;rcases hu with rfl;rfl) (by unfold maxLen;omega) (by omega) hbase
 unfold Oper.wp execOp
 simp only[ho,resolve,invoke,builtin,Sem.run_bind,Sem.run_pure,Result.andThen_ok,List.map_toArray,List.map_cons,List.map_nil,hs,hx,hr]
 refine hK v' w' ?_ h3 h5
 unfold bD bJ
 rw[List.length_append,List.map_append];exact h2
theorem zai {w:World} {B N R:Nat} {cs:Array Value} {vT vN vR:Value} {ts:List Gm.Tm} {ns:List (List Int)} {rs:List Gm.Rl} (h:WRaw w B N R cs vT vN vR ts ns rs):(∃A c,vT=.slice A ts.length c)∧(∃A c,vN=.slice A ns.length c)∧∃A c,vR=.slice A rs.length c:=by
 obtain⟨qs,_,h2,_⟩:=id h.r
 obtain⟨A1,c1,e1,_⟩:=aU h.t
 obtain⟨A2,c2,e2,_⟩:=aU h.n
 obtain⟨A3,c3,e3,_⟩:=aU h2
 exact⟨⟨A1,c1,e1⟩,⟨A2,c2,e2⟩,⟨A3,c3,e3⟩⟩
theorem WRaw.drew9 {w:World} {B N R:Nat} {cs:Array Value} {vT vN vR:Value} {ts:List Gm.Tm} {ns:List (List Int)} {rs:List Gm.Rl} (h:WRaw w B N R cs vT vN vR ts ns rs):WRaw w.drew B N R cs vT vN vR ts ns rs:=h.below (aB (Below.refl _ _) 1)
theorem zc7 {w:World} {B N R:Nat} {vT vN vR:Value} {lv:Int} {ts:List Gm.Tm} {ns:List (List Int)} {rs:List Gm.Rl} {s:List Int} (hf:Gm.Fit ⟨ts,ns,rs,0⟩) (hs:K.Tx s) (h:WRaw w B N R (wC vT vN vR lv) vT vN vR ts ns rs) (hN:N≤w.heap.size) :
  Calls Tryz.prog 49 #[.agg #[vT,vN,vR,.int .i64 0],.string (K.str s)] w fun e w'=>e=.returned (.int .i64 (Gm.find (Gm.names ts) s))∧Below w.heap.size w w' :=
 zbq _ ⟨ts,ns,rs,0⟩ s _ w (h.rd hN 0) hf hs (Nat.le_refl _)
theorem zcr {w:World} {B N R:Nat} {vT vN vR:Value} {lv:Int} {ts:List Gm.Tm} {ns:List (List Int)} {rs:List Gm.Rl} {s:List Int} (hf:Gm.Fit ⟨ts,ns,rs,0⟩) (hs:K.Tx s) (h:WRaw w B N R (wC vT vN vR lv) vT vN vR ts ns rs) (hN:N≤w.heap.size) :
  Calls Tryz.prog 52 #[.agg #[vT,vN,vR,.int .i64 0],.string (K.str s)] w fun e w'=>e=.returned (.int .i64 (Gm.find ns s))∧Below w.heap.size w w' :=
 zfy _ ⟨ts,ns,rs,0⟩ s _ w (h.rd hN 0) hf hs (Nat.le_refl _)
theorem Fit.left {ts:List Gm.Tm} {ns ns':List (List Int)} {rs:List Gm.Rl} {x:Tok} (h:Gm.Fit ⟨ts,ns,rs,0⟩) (hx:K.Tx x.t) (hp:Gm.left1 ts ns x=.ok ns'):Gm.Fit ⟨ts,ns',rs,0⟩:=by
 rcases Gm.left1_ok hp with⟨rfl,_⟩|⟨rfl,_,_,_⟩
 ·exact h
 ·refine⟨h.t,fun y hy=>?_,h.r,h.s⟩
  rcases List.mem_append.1 hy with q|q
  ·exact h.n y q
  ·simp at q;subst q;exact hx
theorem ze8 {ts:List Gm.Tm} {ns ns':List (List Int)} {x:Tok} (h:Gm.left1 ts ns x=.ok ns'):Gm.find (Gm.names ts) x.t<0∧((0≤Gm.find ns x.t∧ns'=ns)∨(Gm.find ns x.t<0∧ns.length≠16∧ns'=ns++[x.t])):=by
 unfold Gm.left1 at h
 split at h
 ·cases h
 ·rename_i h0
  refine⟨by omega,?_⟩
  split at h
  ·rename_i h1;injection h with h;exact .inl ⟨h1,h.symm⟩
  ·rename_i h1
   split at h
   ·cases h
   ·rename_i h2;injection h with h;exact .inr ⟨by omega,h2,h.symm⟩
theorem zk5 (L:List Int) (B N R:Nat) (ts:List Gm.Tm) (rs:List Gm.Rl) (ps:List Y.Prd) (ns0 ns2:List (List Int)) (lv:Int) (A:Option Addr) (c:Nat) (w:World) (hw:Wk w B N R ts ns0 rs lv) (hf:Gm.Fit ⟨ts,ns0,rs,0⟩) (hx:∀p∈ps,K.Tx p.l.t∧T.isName p.l.t=true) (hr:zgW L w B A ps)
  (hN:N≤w.heap.size) (hB:B≤w.heap.size) (h16:ns0.length≤16) (hlen:ps.length≤1000) (hp:Gm.lefts ts ns0 ps=.ok ns2) :
  Calls Tryz.prog 63 #[.pointer (some ⟨R,0,none⟩),.slice A ps.length c] w fun e w'=>e=.returned (.tuple #[])∧(Wk w' B N R ts ns2 rs lv∧Gm.Fit ⟨ts,ns2,rs,0⟩∧ns2.length≤16)∧Below B w w'∧KpA w w':=by
 have SC:=fun a w m X Y=>show(store a (.complex .f64 X Y) m).run Tryz.prog w=stored Tryz.prog w a (.complex .f64 X Y) m from run_store _ w a _ m rfl
 have HR:=aA hr
 have HW0:=aA hw
 have HF0:=aA hf
 have H160:=aA h16
 have HP:=aA hp
 have HKX:=aA (fun(i:Nat) (hi:i<ps.length)=>hx _ (List.getElem_mem hi))
 clear hr hw hf hp hx h16
 go_enter Tryz.func63,Tryz.ntmps63
 go_wp2
 go_loopw [4] (fun vi wr=>∃(i:Nat) (ns:List (List Int)),i≤ps.length∧vi=.int .i64 i∧Hid (Gm.lefts ts ns (ps.drop i)=.ok ns2)∧Hid (Gm.Fit ⟨ts,ns,rs,0⟩)∧Hid (ns.length≤16)∧Hid (Wk wr B N R ts ns rs lv)∧Hid (Below B w wr)∧Hid (KpA w wr)) (fun vi _=>ps.length-(intOf vi).toNat)
 case atStart=>exact⟨0,ns0,Nat.zero_le _,rfl,HP,HF0,H160,HW0,aA (Below.refl _ _),aA (KpA.refl _)⟩
 case round =>
  obtain⟨i,ns,hi,rfl,HE,HF,H16,HW,HBW,HKT⟩:=hrel
  obtain⟨vT,vN,vR,hwr⟩:=HW.out
  obtain⟨⟨AT,cT,rfl⟩,⟨AN,cN,rfl⟩,⟨AR,cR,rfl⟩⟩:=zai hwr
  have HRW:=aA hwr
  obtain⟨f10,_,hRw⟩:=hwr.at 10
  simp only[wC,List.getElem?_toArray,List.getElem?_cons_zero,List.getElem?_cons_succ]at f10
  clear hwr
  by_cases hlt:i<ps.length
  ·obtain⟨g,o,rfl,hgB,hc⟩:=HR.out (by omega)
   have k0:=(HBW.out.cell (p:=⟨g,o+i*5,none⟩) hgB).trans (hc i hlt).1
   have k1:=(HBW.out.cell (p:=⟨g,o+i*5+1,none⟩) hgB).trans (hc i hlt).2.1
   have hBs:=HBW.out.size
   have hgs:g<wr.heap.size:=by omega
   have hBr:B≤wr.heap.size:=by omega
   obtain⟨hx1,hx2⟩:=HKX.out i hlt
   have hE:=HE.out
   rw[zda hlt]at hE
   obtain⟨ns1,h1,h2⟩:=Gm.R.bind_eq hE
   have HN1:=aA h2
   have HF1:=aA (Fit.left HF.out hx1 h1)
   have H161:=aA (zet h1 H16.out)
   obtain⟨hz,hcase⟩:=ze8 h1
   have HTM:=aA (fun(y:World) (lv':Int) (h:WRaw y B N R (wC (.slice AT ts.length cT) (.slice AN ns.length cN) (.slice AR rs.length cR) lv') (.slice AT ts.length cT) (.slice AN ns.length cN) (.slice AR rs.length cR) ts ns rs) (hy:N≤y.heap.size)=>zc7 HF.out hx1 h hy)
   have HNO:=aA (fun(y:World) (lv':Int) (h:WRaw y B N R (wC (.slice AT ts.length cT) (.slice AN ns.length cN) (.slice AR rs.length cR) lv') (.slice AT ts.length cT) (.slice AN ns.length cN) (.slice AR rs.length cR) ts ns rs) (hy:N≤y.heap.size)=>zcr HF.out hx1 h hy)
   have HNM:=aA (fun(y:World)=>zck ps[i].l.t hx1.1 y)
   rw[hx2]at HNM
   have HCA:=aA hcase
   clear hc hE h1 h2 hx1 hx2 hcase
   generalize ps[i].l=x at *
   generalize rfX L x=X at *
   generalize rfY L x=Y at *
   obtain⟨w1,hw1⟩:∃y,y=wr.alloc (.cells #[.string (K.str x.t),.complex .f64 X Y] 90):=⟨_,rfl⟩
   have HB01:Hid (Below wr.heap.size wr w1):=aA (by rw[hw1];exact(Below.refl _ _).alloc (Nat.le_refl _) _)
   have HDw1:Hid (w1.heap[wr.heap.size]?=some (.cells #[.string (K.str x.t),.complex .f64 X Y] 90 (0,0))):=aA (by rw[hw1];exact heap_alloc_new wr _)
   have HQw1:=aA (HRW.out.below HB01.out)
   have HNw1:Hid (N≤w1.heap.size):=aA (by have:=HB01.out.size;omega)
   generalize hsx:K.str x.t=sx at *
   have HSX:=aA hsx
   clear hsx
   go_wp2_with fail
   try rw[←hw1]
   clear hw1 f10 k0 k1
   refine(HNM.out _).mono ?_;rintro _ _ ⟨rfl,rfl⟩
   go_wp2_with fail
   obtain⟨p0,_,hRs⟩:=HQw1.out.at 0
   have p1:=(HQw1.out.at 1).1
   have p2:=(HQw1.out.at 2).1
   have p3:=(HQw1.out.at 3).1
   simp only[wC,List.getElem?_toArray,List.getElem?_cons_zero,List.getElem?_cons_succ]at p0 p1 p2 p3
   have hDs:wr.heap.size<w1.heap.size:=(Array.getElem?_eq_some_iff.1 HDw1.out).1
   have t0:w1.cell? ⟨wr.heap.size,0,none⟩=some (.string sx):=by rw[cell_of_row w1 _ 0 _ _ _ HDw1.out];rfl
   have Q0:=fun y:Calm.On w1.heap.size w1=>(y.2.cell (p:=⟨R,0,none⟩) hRs).trans p0
   have Q1:=fun y:Calm.On w1.heap.size w1=>(y.2.cell (p:=⟨R,1,none⟩) hRs).trans p1
   have Q2:=fun y:Calm.On w1.heap.size w1=>(y.2.cell (p:=⟨R,2,none⟩) hRs).trans p2
   have Q3:=fun y:Calm.On w1.heap.size w1=>(y.2.cell (p:=⟨R,3,none⟩) hRs).trans p3
   have Q4:=fun y:Calm.On w1.heap.size w1=>(y.2.cell (p:=⟨wr.heap.size,0,none⟩) hDs).trans t0
   refine CalmN.region_tree (fun x=>∃y:Calm.On w1.heap.size w1,x=y.1) (.one [0,1,2,3,4,5] 6 (.fin [7,8])) (by kernel_rfl) (by kernel_rfl) (fun _ _ d _ _ h=>by cases d <;> exact h) ⟨⟨w1.drew,aB (Below.refl _ _) 1⟩,rfl⟩ ?_
   simp only[CalmN.wpT,CalmN.wpSt,CalmN.pickOps,List.getElem?_toArray,List.getElem?_cons_zero,List.getElem?_cons_succ]
   repeat (go_big_quiet_step (fail))
   refine wpQuiet_nil ?_
   clear Q0 Q1 Q2 Q3 Q4 p0 p1 p2 p3 t0
   intro KK hKK
   rw[if_pos (by rfl)]
   go_wp2_with fail
   refine(HTM.out w1.drew _ HQw1.out.drew9 HNw1.out).mono ?_;rintro _ w2 ⟨rfl,hb2⟩
   have hb12:Below w1.heap.size w1 w2:=(aB (Below.refl w1.heap.size w1) 1).trans hb2
   have HBw2:=aA hb12
   have HQw2:=aA (HQw1.out.below hb12)
   have HDw2:=aA ((hb12.block _ hDs).trans HDw1.out)
   have HNw2:=aA (Nat.le_trans HNw1.out hb12.size)
   clear hb2 hb12
   go_wp2_with fail
   refine hKK _ _ ⟨⟨w2,HBw2.out⟩,rfl⟩ (fun x=>∃y:Calm.On w1.heap.size w1,x=y.1) (fun _ h=>h) ⟨⟨w2,HBw2.out⟩,rfl⟩ ?_
   repeat (go_big_quiet_step (fail))
   refine wpQuiet_nil ?_
   clear hKK hDs hRs
   have hz0:¬(0:Int)≤Gm.find (Gm.names ts) x.t:=by omega
   clear hz
   generalize Gm.find (Gm.names ts) x.t=z at *
   go_wp2_with fail
   obtain⟨p0,_,hRs⟩:=HQw2.out.at 0
   have p1:=(HQw2.out.at 1).1
   have p2:=(HQw2.out.at 2).1
   have p3:=(HQw2.out.at 3).1
   simp only[wC,List.getElem?_toArray,List.getElem?_cons_zero,List.getElem?_cons_succ]at p0 p1 p2 p3
   have hDs:wr.heap.size<w2.heap.size:=(Array.getElem?_eq_some_iff.1 HDw2.out).1
   have t0:w2.cell? ⟨wr.heap.size,0,none⟩=some (.string sx):=by rw[cell_of_row w2 _ 0 _ _ _ HDw2.out];rfl
   have Q0:=fun y:Calm.On w2.heap.size w2=>(y.2.cell (p:=⟨R,0,none⟩) hRs).trans p0
   have Q1:=fun y:Calm.On w2.heap.size w2=>(y.2.cell (p:=⟨R,1,none⟩) hRs).trans p1
   have Q2:=fun y:Calm.On w2.heap.size w2=>(y.2.cell (p:=⟨R,2,none⟩) hRs).trans p2
   have Q3:=fun y:Calm.On w2.heap.size w2=>(y.2.cell (p:=⟨R,3,none⟩) hRs).trans p3
   have Q4:=fun y:Calm.On w2.heap.size w2=>(y.2.cell (p:=⟨wr.heap.size,0,none⟩) hDs).trans t0
   refine CalmN.region_tree (fun x=>∃y:Calm.On w2.heap.size w2,x=y.1) (.one [0,1,2,3,4,5] 6 (.fin [7,8])) (by kernel_rfl) (by kernel_rfl) (fun _ _ d _ _ h=>by cases d <;> exact h) ⟨⟨w2.drew,aB (Below.refl _ _) 1⟩,rfl⟩ ?_
   simp only[CalmN.wpT,CalmN.wpSt,CalmN.pickOps,List.getElem?_toArray,List.getElem?_cons_zero,List.getElem?_cons_succ]
   repeat (go_big_quiet_step (fail))
   refine wpQuiet_nil ?_
   clear Q0 Q1 Q2 Q3 Q4 p0 p1 p2 p3 t0
   intro KK hKK
   rw[if_pos (by rfl)]
   go_wp2_with fail
   refine(HNO.out w2.drew _ HQw2.out.drew9 HNw2.out).mono ?_;rintro _ w3 ⟨rfl,hb2⟩
   have hb12:Below w2.heap.size w2 w3:=(aB (Below.refl w2.heap.size w2) 1).trans hb2
   have HBw3:=aA hb12
   have HQw3:=aA (HQw2.out.below hb12)
   have HDw3:=aA ((hb12.block _ hDs).trans HDw2.out)
   have HNw3:=aA (Nat.le_trans HNw2.out hb12.size)
   clear hb2 hb12
   go_wp2_with fail
   refine hKK _ _ ⟨⟨w3,HBw3.out⟩,rfl⟩ (fun x=>∃y:Calm.On w2.heap.size w2,x=y.1) (fun _ h=>h) ⟨⟨w3,HBw3.out⟩,rfl⟩ ?_
   repeat (go_big_quiet_step (fail))
   refine wpQuiet_nil ?_
   clear hKK hDs hRs
   have HBK:=aA (KpA.below (((HB01.out.trans (HBw2.out.mono HB01.out.size)).trans (HBw3.out.mono (Nat.le_trans HB01.out.size HBw2.out.size)))))
   have HBB:=aA (((HB01.out.trans (HBw2.out.mono HB01.out.size)).trans (HBw3.out.mono (Nat.le_trans HB01.out.size HBw2.out.size))).mono hBr)
   rcases HCA.out with⟨h0,e⟩|⟨h0,hl16,e⟩
   ·have HNE:=aA e
    clear e
    generalize Gm.find ns x.t=z2 at *
    go_wp2
    go_roundw
    case rel=>exact⟨i+1,ns,hlt,by go_num,by rw[←HNE.out];exact HN1,HF,H16,aA ⟨_,_,_,HQw3.out⟩,aA (HBW.out.trans HBB.out),aA (HKT.out.trans HBK.out)⟩
    case measure=>simp[intOf];omega
   have HNE:=aA e
   clear e
   have h0':¬(0:Int)≤Gm.find ns x.t:=by omega
   generalize Gm.find ns x.t=z2 at *
   have hl16':((ns.length:Int)==16)=false:=beq_eq_false_iff_ne.2 (by omega)
   obtain⟨k1,hf1,_⟩:=HQw3.out.at 1
   simp only[wC,List.getElem?_toArray,List.getElem?_cons_zero,List.getElem?_cons_succ]at k1
   go_wp2_with fail
   have HO6:=aA ((HQw3.out.alloc (.cells #[.string sx] 9)).n)
   have HB6:Hid (B≤(w3.alloc (.cells #[.string sx] 9)).drew.heap.size):=aA (by have:=HBw3.out.size;have:=HBw2.out.size;have:=HB01.out.size;simp;omega)
   have HCE:Hid ((w3.alloc (.cells #[.string sx] 9)).drew.cell? ⟨w3.heap.size,0,none⟩=some (.string (K.str x.t))):=aA (by rw[HSX.out];exact aH w3 [.string sx] 9 0)
   have HT6:Hid ((w3.alloc (.cells #[.string sx] 9)).heap[wr.heap.size]?=w3.heap[wr.heap.size]?):=aA (((Below.refl _ w3).alloc (Nat.le_refl _) _).block _ (Array.getElem?_eq_some_iff.1 HDw3.out).1)
   have D8:=fun y:Calm.OnB wr.heap.size w3=>(show y.1.cell? ⟨wr.heap.size,0,none⟩=some (.string sx) by rw[cell_of_row y.1 _ 0 _ _ _ (y.2.trans HDw3.out)];rfl)
   refine CalmN.region_tree (fun y=>∃z:Calm.OnB wr.heap.size w3,y=z.1) (.two [0,1,2,3,4,6,7] 5 (.one [] 8 (.one [] 9 (.one [10,11,12] 13 (.fin [])))) 8 (.one [] 5 (.one [] 9 (.one [10,11,12] 13 (.fin []))))) (by kernel_rfl) (by kernel_rfl) (fun _ _ d _ _ h=>by cases d <;> exact h) ⟨⟨w3.drew,rfl⟩,rfl⟩ ?_
   simp only[CalmN.wpT,CalmN.wpSt,CalmN.pickOps,List.getElem?_toArray,List.getElem?_cons_zero,List.getElem?_cons_succ]
   repeat (go_big_quiet_step (fail))
   refine wpQuiet_nil ?_
   clear D8
   refine⟨?_,?_⟩
   ·intro KK hKK
    rw[if_pos (by rfl)]
    go_wp2_with fail
    refine hKK _ _ ⟨⟨w3.drew,rfl⟩,rfl⟩ (fun y=>∃z:Calm.OnB wr.heap.size w3,y=z.1) (fun _ h=>h) ⟨⟨w3.drew,rfl⟩,rfl⟩ ?_
    refine wpQuiet_nil ?_
    intro KK hKK
    try rw[if_pos (by rfl)]
    go_wp2_with fail
    refine hKK _ _ ⟨⟨(w3.alloc (.cells #[.string sx] 9)).drew,HT6.out⟩,rfl⟩ (fun y=>∃z:Calm.OnB wr.heap.size w3,y=z.1) (fun _ h=>h) ⟨⟨(w3.alloc (.cells #[.string sx] 9)).drew,HT6.out⟩,rfl⟩ ?_
    refine wpQuiet_nil ?_
    intro KK hKK
    try rw[if_pos (by rfl)]
    refine zbk (w:=(w3.alloc (.cells #[.string sx] 9)).drew) (.tmp 29) (.tmp 32) _ rfl Tryz.underlying23 B (.slice AN ns.length cN) ns rfl HO6.out _ 1 x.t rfl HCE.out (by have:=H16.out;omega) HB6.out ?_
    intro v7 w7 ho7 hg7' _
    have hg7:=(aE (w3.alloc (.cells #[.string sx] 9)) _).trans hg7'
    obtain⟨A7,c7,hv7,_,_⟩:=aU ho7
    rw[show(ns++[x.t]).length=ns.length+1 by simp]at hv7
    subst hv7
    have hW7:=(HQw3.out.alloc (.cells #[.string sx] 9)).n_put ho7 hg7
    have HW7:=aA hW7
    obtain⟨k7,hf7,hR7⟩:=hW7.at 1
    simp only[wC,List.getElem?_toArray,List.getElem?_cons_zero,List.getElem?_cons_succ]at k7
    have hb4:Below w3.heap.size w3 (w3.alloc (.cells #[.string sx] 9)):=(Below.refl _ w3).alloc (Nat.le_refl _) (.cells #[.string sx] 9)
    have HK7:=aA ((KpA.below hb4).trans (KpA.own (HQw3.out.alloc (.cells #[.string sx] 9)).n hg7 (.inr (.inl rfl))))
    have HT7:Hid (w7.heap[wr.heap.size]?=w3.heap[wr.heap.size]?):=aA ((HK7.out _ _ _ HDw3.out (by decide) (by decide) (by decide) (by decide)).trans HDw3.out.symm)
    have HB7:=aA ((HBB.out.alloc (by have:=HB6.out;have:=HBB.out.size;omega) (.cells #[.string sx] 9)).grown hg7 (by have:=HB6.out;simpa using this) (fun k e=>(aF HQw3.out.n e).1))
    clear ho7 hg7 hg7' hW7 hb4
    go_wp2_with fail
    refine hKK _ _ ⟨⟨w7,HT7.out⟩,rfl⟩ (fun y=>∃z:Calm.OnB wr.heap.size w3,y=z.1) (fun _ h=>h) ⟨⟨w7,HT7.out⟩,rfl⟩ ?_
    repeat (go_big_quiet_step (fail))
    refine wpQuiet_nil ?_
    intro KK hKK
    try rw[if_pos (by rfl)]
    go_wp2_with fail
    have HW8:=aA (HW7.out.set 1 (.slice A7 (ns.length+1) c7))
    have HK8:=aA (HK7.out.trans (KpT.set HW7.out 1 (.slice A7 (ns.length+1) c7)).a)
    have HB8:=aA (HB7.out.setCell (p:=⟨R,1,none⟩) HW7.out.hR (.slice A7 (ns.length+1) c7))
    have HT8:Hid ((w7.setCell ⟨R,1,none⟩ (.slice A7 (ns.length+1) c7)).heap[wr.heap.size]?=w3.heap[wr.heap.size]?):=aA ((HK8.out _ _ _ HDw3.out (by decide) (by decide) (by decide) (by decide)).trans HDw3.out.symm)
    refine hKK _ _ ⟨⟨_,HT8.out⟩,rfl⟩ (fun y=>∃z:Calm.OnB wr.heap.size w3,y=z.1) (fun _ h=>h) ⟨⟨_,HT8.out⟩,rfl⟩ ?_
    refine wpQuiet_nil ?_
    clear k7 hf7
    go_wp2
    go_roundw
    case rel=>exact⟨i+1,ns++[x.t],hlt,by go_num,by rw[←HNE.out];exact HN1,by rw[←HNE.out];exact HF1,by rw[←HNE.out];exact H161,aA ⟨_,_,_,HW8.out⟩,aA (HBW.out.trans HB8.out),aA ((HKT.out.trans HBK.out).trans HK8.out)⟩
    case measure=>simp[intOf];omega
   ·intro KK hKK
    rw[if_pos (by rfl)]
    go_wp2_with fail
    refine hKK _ _ ⟨⟨(w3.alloc (.cells #[.string sx] 9)).drew,HT6.out⟩,rfl⟩ (fun y=>∃z:Calm.OnB wr.heap.size w3,y=z.1) (fun _ h=>h) ⟨⟨(w3.alloc (.cells #[.string sx] 9)).drew,HT6.out⟩,rfl⟩ ?_
    refine wpQuiet_nil ?_
    intro KK hKK
    try rw[if_pos (by rfl)]
    go_wp2_with fail
    refine hKK _ _ ⟨⟨(w3.alloc (.cells #[.string sx] 9)).drew,HT6.out⟩,rfl⟩ (fun y=>∃z:Calm.OnB wr.heap.size w3,y=z.1) (fun _ h=>h) ⟨⟨(w3.alloc (.cells #[.string sx] 9)).drew,HT6.out⟩,rfl⟩ ?_
    refine wpQuiet_nil ?_
    intro KK hKK
    try rw[if_pos (by rfl)]
    refine zbk (w:=(w3.alloc (.cells #[.string sx] 9)).drew) (.tmp 29) (.tmp 32) _ rfl Tryz.underlying23 B (.slice AN ns.length cN) ns rfl HO6.out _ 1 x.t rfl HCE.out (by have:=H16.out;omega) HB6.out ?_
    intro v7 w7 ho7 hg7' _
    have hg7:=(aE (w3.alloc (.cells #[.string sx] 9)) _).trans hg7'
    obtain⟨A7,c7,hv7,_,_⟩:=aU ho7
    rw[show(ns++[x.t]).length=ns.length+1 by simp]at hv7
    subst hv7
    have hW7:=(HQw3.out.alloc (.cells #[.string sx] 9)).n_put ho7 hg7
    have HW7:=aA hW7
    obtain⟨k7,hf7,hR7⟩:=hW7.at 1
    simp only[wC,List.getElem?_toArray,List.getElem?_cons_zero,List.getElem?_cons_succ]at k7
    have hb4:Below w3.heap.size w3 (w3.alloc (.cells #[.string sx] 9)):=(Below.refl _ w3).alloc (Nat.le_refl _) (.cells #[.string sx] 9)
    have HK7:=aA ((KpA.below hb4).trans (KpA.own (HQw3.out.alloc (.cells #[.string sx] 9)).n hg7 (.inr (.inl rfl))))
    have HT7:Hid (w7.heap[wr.heap.size]?=w3.heap[wr.heap.size]?):=aA ((HK7.out _ _ _ HDw3.out (by decide) (by decide) (by decide) (by decide)).trans HDw3.out.symm)
    have HB7:=aA ((HBB.out.alloc (by have:=HB6.out;have:=HBB.out.size;omega) (.cells #[.string sx] 9)).grown hg7 (by have:=HB6.out;simpa using this) (fun k e=>(aF HQw3.out.n e).1))
    clear ho7 hg7 hg7' hW7 hb4
    go_wp2_with fail
    refine hKK _ _ ⟨⟨w7,HT7.out⟩,rfl⟩ (fun y=>∃z:Calm.OnB wr.heap.size w3,y=z.1) (fun _ h=>h) ⟨⟨w7,HT7.out⟩,rfl⟩ ?_
    repeat (go_big_quiet_step (fail))
    refine wpQuiet_nil ?_
    intro KK hKK
    try rw[if_pos (by rfl)]
    go_wp2_with fail
    have HW8:=aA (HW7.out.set 1 (.slice A7 (ns.length+1) c7))
    have HK8:=aA (HK7.out.trans (KpT.set HW7.out 1 (.slice A7 (ns.length+1) c7)).a)
    have HB8:=aA (HB7.out.setCell (p:=⟨R,1,none⟩) HW7.out.hR (.slice A7 (ns.length+1) c7))
    have HT8:Hid ((w7.setCell ⟨R,1,none⟩ (.slice A7 (ns.length+1) c7)).heap[wr.heap.size]?=w3.heap[wr.heap.size]?):=aA ((HK8.out _ _ _ HDw3.out (by decide) (by decide) (by decide) (by decide)).trans HDw3.out.symm)
    refine hKK _ _ ⟨⟨_,HT8.out⟩,rfl⟩ (fun y=>∃z:Calm.OnB wr.heap.size w3,y=z.1) (fun _ h=>h) ⟨⟨_,HT8.out⟩,rfl⟩ ?_
    refine wpQuiet_nil ?_
    clear k7 hf7
    go_wp2
    go_roundw
    case rel=>exact⟨i+1,ns++[x.t],hlt,by go_num,by rw[←HNE.out];exact HN1,by rw[←HNE.out];exact HF1,by rw[←HNE.out];exact H161,aA ⟨_,_,_,HW8.out⟩,aA (HBW.out.trans HB8.out),aA ((HKT.out.trans HBK.out).trans HK8.out)⟩
    case measure=>simp[intOf];omega
  ·obtain rfl:i=ps.length:=by omega
   have hE:=HE.out
   rw[zes (Nat.le_refl _)]at hE
   injection hE with hE
   subst hE
   go_wp2
   go_end0
   exact⟨rfl,⟨HW.out,HF.out,H16.out⟩,HBW.out,HKT.out⟩
theorem zg6 {ts ts':List Gm.Tm} {x:Tok} {n:Int} (h:Gm.sym ts x=.ok (ts',n)) (he:x.t≠[101,114,114,111,114]):Gm.put ts x=.ok (ts',n)∧(0≤Gm.find (Gm.names ts) x.t∨(Gm.find (Gm.names ts) x.t<0∧T.isLit x.t=true)):=by
 unfold Gm.sym at h
 split at h
 ·rename_i q
  refine⟨h,?_⟩
  rcases q with q|q|q
  ·exact .inl q
  ·by_cases h0:0≤Gm.find (Gm.names ts) x.t
   ·exact .inl h0
   ·exact .inr ⟨by omega,q⟩
  ·exact absurd q he
 ·cases h
theorem zdo (L:List Int) (B N R:Nat) (ts ts':List Gm.Tm) (ns:List (List Int)) (rs:List Gm.Rl) (lv n:Int) (x:Tok) (may:Bool) (w:World) (hw:Wk w B N R ts ns rs lv) (hf:Gm.Fit ⟨ts,ns,rs,0⟩) (hx:K.Tx x.t) (he:x.t≠[101,114,114,111,114]) (hN:N≤w.heap.size) (hB:B≤w.heap.size) (hlo:(0≤Gm.find ns x.t∧may=true∧ts'=ts∧n = -1-Gm.find ns x.t)∨(Gm.find ns x.t<0∧Gm.sym ts x=.ok (ts',n))) (h24:ts.length≤24) (h16:ns.length≤16) :
  Calls Tryz.prog 100 #[.pointer (some ⟨R,0,none⟩),bK L x,.bool may] w fun e w'=>e=.returned (.int .i64 n)∧Wk w' B N R ts' ns rs lv∧Below B w w'∧KpT w w':=by
 have HW:=aA hw
 obtain⟨vT,vN,vR,hwr⟩:=HW.out
 obtain⟨⟨AT,cT,rfl⟩,⟨AN,cN,rfl⟩,⟨AR,cR,rfl⟩⟩:=zai hwr
 have HRW:=aA hwr
 have HF:=aA hf
 have HX:=aA hx
 have hRw:=hwr.lt
 clear hwr
 have HTM:=aA (fun(y:World) (lv':Int) (h:WRaw y B N R (wC (.slice AT ts.length cT) (.slice AN ns.length cN) (.slice AR rs.length cR) lv') (.slice AT ts.length cT) (.slice AN ns.length cN) (.slice AR rs.length cR) ts ns rs) (hy:N≤y.heap.size)=>zc7 hf hx h hy)
 have HNO:=aA (fun(y:World) (lv':Int) (h:WRaw y B N R (wC (.slice AT ts.length cT) (.slice AN ns.length cN) (.slice AR rs.length cR) lv') (.slice AT ts.length cT) (.slice AN ns.length cN) (.slice AR rs.length cR) ts ns rs) (hy:N≤y.heap.size)=>zcr hf hx h hy)
 have HLT:=aA (fun(y:World)=>zdv x.t hx.1 y)
 have HTE:=aA (fun(hp:Gm.put ts x=.ok (ts',n)) (y:World) (h:Wk y B N R ts ns rs lv) (hy:N≤y.heap.size) (hz:B≤y.heap.size)=>zdY L B N R ts ts' ns rs lv n x y h hf hx hy hz hp h24)
 have HSY:=aA (fun h=>zg6 (ts:=ts) (ts':=ts') (x:=x) (n:=n) h he)
 unfold bK at HTE ⊢
 have hBr:=hB
 generalize Fl.fl (Pl.pos (L.take x.o)).1=X at *
 generalize Fl.fl (Pl.pos (L.take x.o)).2=Y at *
 obtain⟨w1,hw1⟩:∃y,y=w.alloc (.cells #[.string (K.str x.t),.complex .f64 X Y] 90):=⟨_,rfl⟩
 have HB01:Hid (Below w.heap.size w w1):=aA (by rw[hw1];exact(Below.refl _ _).alloc (Nat.le_refl _) _)
 have HDw1:Hid (w1.heap[w.heap.size]?=some (.cells #[.string (K.str x.t),.complex .f64 X Y] 90 (0,0))):=aA (by rw[hw1];exact heap_alloc_new w _)
 have HQw1:=aA (HRW.out.below HB01.out)
 have HNw1:Hid (N≤w1.heap.size):=aA (by have:=HB01.out.size;omega)
 generalize K.str x.t=sx at *
 have HLO:=aA hlo
 clear hlo hf hx hw
 go_enter Tryz.func100,Tryz.ntmps100
 go_wp2_with fail
 try rw[←hw1]
 clear hw1
 obtain⟨p0,_,hRs⟩:=HQw1.out.at 0
 have p1:=(HQw1.out.at 1).1
 have p2:=(HQw1.out.at 2).1
 have p3:=(HQw1.out.at 3).1
 simp only[wC,List.getElem?_toArray,List.getElem?_cons_zero,List.getElem?_cons_succ]at p0 p1 p2 p3
 have hDs:w.heap.size<w1.heap.size:=(Array.getElem?_eq_some_iff.1 HDw1.out).1
 have t0:w1.cell? ⟨w.heap.size,0,none⟩=some (.string sx):=by rw[cell_of_row w1 _ 0 _ _ _ HDw1.out];rfl
 have Q0:=fun y:Calm.On w1.heap.size w1=>(y.2.cell (p:=⟨R,0,none⟩) hRs).trans p0
 have Q1:=fun y:Calm.On w1.heap.size w1=>(y.2.cell (p:=⟨R,1,none⟩) hRs).trans p1
 have Q2:=fun y:Calm.On w1.heap.size w1=>(y.2.cell (p:=⟨R,2,none⟩) hRs).trans p2
 have Q3:=fun y:Calm.On w1.heap.size w1=>(y.2.cell (p:=⟨R,3,none⟩) hRs).trans p3
 have Q4:=fun y:Calm.On w1.heap.size w1=>(y.2.cell (p:=⟨w.heap.size,0,none⟩) hDs).trans t0
 refine CalmN.region_tree (fun x=>∃y:Calm.On w1.heap.size w1,x=y.1) (.one [0,1,2,3,4,5] 6 (.fin [7])) (by kernel_rfl) (by kernel_rfl) (fun _ _ d _ _ h=>by cases d <;> exact h) ⟨⟨w1.drew,aB (Below.refl _ _) 1⟩,rfl⟩ ?_
 simp only[CalmN.wpT,CalmN.wpSt,CalmN.pickOps,List.getElem?_toArray,List.getElem?_cons_zero,List.getElem?_cons_succ]
 repeat (go_big_quiet_step (fail))
 refine wpQuiet_nil ?_
 clear Q0 Q1 Q2 Q3 Q4 p0 p1 p2 p3 t0
 intro KK hKK
 rw[if_pos (by rfl)]
 go_wp2_with fail
 refine(HNO.out w1.drew _ HQw1.out.drew9 HNw1.out).mono ?_;rintro _ w2 ⟨rfl,hb2⟩
 have hb12:Below w1.heap.size w1 w2:=(aB (Below.refl w1.heap.size w1) 1).trans hb2
 have HBw2:=aA hb12
 have HQw2:=aA (HQw1.out.below hb12)
 have HDw2:=aA ((hb12.block _ hDs).trans HDw1.out)
 have HNw2:=aA (Nat.le_trans HNw1.out hb12.size)
 clear hb2 hb12
 go_wp2_with fail
 refine hKK _ _ ⟨⟨w2,HBw2.out⟩,rfl⟩ (fun x=>∃y:Calm.On w1.heap.size w1,x=y.1) (fun _ h=>h) ⟨⟨w2,HBw2.out⟩,rfl⟩ ?_
 repeat (go_big_quiet_step (fail))
 refine wpQuiet_nil ?_
 clear hKK hDs hRs
 have HB2:=aA (HB01.out.trans (HBw2.out.mono HB01.out.size))
 rcases HLO.out with⟨h0,h1,h2,h3⟩|⟨h0,hsy⟩
 ·subst h1
  have HEQ:=aA (And.intro h2 h3)
  clear h2 h3
  have hzl:=Gm.find_lt ns x.t
  generalize Gm.find ns x.t=z at *
  have hwr:wrap64 (-1-z) = -1-z:=by unfold wrap64;omega
  go_wp2
  go_ret
  exact⟨by rw[HEQ.out.2];simp,by rw[HEQ.out.1];exact⟨_,_,_,HQw2.out⟩,HB2.out.mono hB,KpT.below HB2.out⟩
 ·obtain⟨hput,hc⟩:=HSY.out hsy
  have h0':¬(0:Int)≤Gm.find ns x.t:=by omega
  have HTP:=aA (HTE.out hput)
  clear hsy hput HTE HLO HSY
  generalize Gm.find ns x.t=z at *
  have hmz:(decide (0≤z)&&may)=false:=by simp[h0']
  go_wp2_with fail
  obtain⟨p0,_,hRs⟩:=HQw2.out.at 0
  have p1:=(HQw2.out.at 1).1
  have p2:=(HQw2.out.at 2).1
  have p3:=(HQw2.out.at 3).1
  simp only[wC,List.getElem?_toArray,List.getElem?_cons_zero,List.getElem?_cons_succ]at p0 p1 p2 p3
  have hDs:w.heap.size<w2.heap.size:=(Array.getElem?_eq_some_iff.1 HDw2.out).1
  have u0:w2.cell? ⟨w.heap.size,0,none⟩=some (.string sx):=by rw[cell_of_row w2 _ 0 _ _ _ HDw2.out];rfl
  have Q0:=fun y:Calm.On w2.heap.size w2=>(y.2.cell (p:=⟨R,0,none⟩) hRs).trans p0
  have Q1:=fun y:Calm.On w2.heap.size w2=>(y.2.cell (p:=⟨R,1,none⟩) hRs).trans p1
  have Q2:=fun y:Calm.On w2.heap.size w2=>(y.2.cell (p:=⟨R,2,none⟩) hRs).trans p2
  have Q3:=fun y:Calm.On w2.heap.size w2=>(y.2.cell (p:=⟨R,3,none⟩) hRs).trans p3
  have Q4:=fun y:Calm.On w2.heap.size w2=>(y.2.cell (p:=⟨w.heap.size,0,none⟩) hDs).trans u0
  clear u0
  refine CalmN.region_tree (fun x=>∃y:Calm.On w2.heap.size w2,x=y.1) (.one [0,1,2,3,4,5] 6 (.one [7,8,9,10] 11 (.fin [12,13,14,15,16,17,18]))) (by kernel_rfl) (by kernel_rfl) (fun _ _ d _ _ h=>by cases d <;> exact h) ⟨⟨w2.drew,aB (Below.refl _ _) 1⟩,rfl⟩ ?_
  simp only[CalmN.wpT,CalmN.wpSt,CalmN.pickOps,List.getElem?_toArray,List.getElem?_cons_zero,List.getElem?_cons_succ]
  repeat (go_big_quiet_step (fail))
  refine wpQuiet_nil ?_
  intro KK hKK
  rw[if_pos (by rfl)]
  go_wp2_with fail
  refine(HTM.out w2.drew _ HQw2.out.drew9 HNw2.out).mono ?_;rintro _ w3 ⟨rfl,hb2⟩
  have hb12:Below w2.heap.size w2 w3:=(aB (Below.refl w2.heap.size w2) 1).trans hb2
  have HBw3:=aA hb12
  have HQw3:=aA (HQw2.out.below hb12)
  have HDw3:=aA ((hb12.block _ hDs).trans HDw2.out)
  have HNw3:=aA (Nat.le_trans HNw2.out hb12.size)
  clear hb2 hb12
  go_wp2_with fail
  refine hKK _ _ ⟨⟨w3,HBw3.out⟩,rfl⟩ (fun x=>∃y:Calm.On w2.heap.size w2,x=y.1) (fun _ h=>h) ⟨⟨w3,HBw3.out⟩,rfl⟩ ?_
  have HB3:=aA (HB2.out.trans (HBw3.out.mono HB2.out.size))
  rcases hc with hc|⟨hc,hlit⟩
  ·have hcT:decide (0≤Gm.find (Gm.names ts) x.t)=true:=decide_eq_true hc
   generalize Gm.find (Gm.names ts) x.t=z2 at *
   repeat (go_big_quiet_step (fail))
   refine wpQuiet_nil ?_
   intro KK2 hKK2
   rw[if_neg (by exact(fun h=>absurd (show false=true from h) (by decide)))]
   refine hKK2 _ _ ⟨⟨w3,HBw3.out⟩,rfl⟩ (fun x=>∃y:Calm.On w2.heap.size w2,x=y.1) (fun _ h=>h) ⟨⟨w3,HBw3.out⟩,rfl⟩ ?_
   simp only[Act.put,List.setIfInBounds_toArray,List.set_cons_succ,List.set_cons_zero]
   repeat (go_big_quiet_step (fail))
   refine wpQuiet_nil ?_
   have hDs3:w.heap.size<w3.heap.size:=(Array.getElem?_eq_some_iff.1 HDw3.out).1
   have t0:w3.cell? ⟨w.heap.size,0,none⟩=some (.string sx):=by rw[cell_of_row w3 _ 0 _ _ _ HDw3.out];rfl
   have t1:w3.cell? ⟨w.heap.size,1,none⟩=some (.complex .f64 X Y):=by rw[cell_of_row w3 _ 1 _ _ _ HDw3.out];rfl
   have HC:=aA (HTP.out w3 ⟨_,_,_,HQw3.out⟩ HNw3.out (Nat.le_trans hB HB3.out.size))
   clear Q0 Q1 Q2 Q3 Q4 p0 p1 p2 p3
   go_wp2_with fail
   refine HC.out.mono ?_;rintro _ w4 ⟨rfl,hw4,hb4,hk4⟩
   have HFI:=aA (And.intro hw4 (And.intro ((HB3.out.mono hB).trans hb4) ((KpT.below HB3.out).trans hk4)))
   clear hw4 hb4 hk4 t0 t1
   go_wp2
   go_ret
   exact⟨rfl,HFI.out⟩
  ·have hcF:decide (0≤Gm.find (Gm.names ts) x.t)=false:=decide_eq_false (by omega)
   rw[hlit]at HLT
   generalize Gm.find (Gm.names ts) x.t=z2 at *
   repeat (go_big_quiet_step (fail))
   refine wpQuiet_nil ?_
   intro KK2 hKK2
   rw[if_pos (by rfl)]
   go_wp2_with fail
   refine(HLT.out _).mono ?_;rintro _ _ ⟨rfl,rfl⟩
   go_wp2_with fail
   refine hKK2 _ _ ⟨⟨w3,HBw3.out⟩,rfl⟩ (fun x=>∃y:Calm.On w2.heap.size w2,x=y.1) (fun _ h=>h) ⟨⟨w3,HBw3.out⟩,rfl⟩ ?_
   repeat (go_big_quiet_step (fail))
   refine wpQuiet_nil ?_
   have hDs3:w.heap.size<w3.heap.size:=(Array.getElem?_eq_some_iff.1 HDw3.out).1
   have t0:w3.cell? ⟨w.heap.size,0,none⟩=some (.string sx):=by rw[cell_of_row w3 _ 0 _ _ _ HDw3.out];rfl
   have t1:w3.cell? ⟨w.heap.size,1,none⟩=some (.complex .f64 X Y):=by rw[cell_of_row w3 _ 1 _ _ _ HDw3.out];rfl
   have HC:=aA (HTP.out w3 ⟨_,_,_,HQw3.out⟩ HNw3.out (Nat.le_trans hB HB3.out.size))
   clear Q0 Q1 Q2 Q3 Q4 p0 p1 p2 p3
   go_wp2_with fail
   refine HC.out.mono ?_;rintro _ w4 ⟨rfl,hw4,hb4,hk4⟩
   have HFI:=aA (And.intro hw4 (And.intro ((HB3.out.mono hB).trans hb4) ((KpT.below HB3.out).trans hk4)))
   clear hw4 hb4 hk4 t0 t1
   go_wp2
   go_ret
   exact⟨rfl,HFI.out⟩
theorem KpT.beyond {w wr w':World} {row:Option Nat} (h:KpT w wr) (hg:wr.grownBy w' row) (hr:∀k,row=some k→w.heap.size≤k):KpT w w':=fun g cs T h1 h2 h3=>by
 have hk:=h g cs T h1 h2 h3
 refine(hg.block g (Array.getElem?_eq_some_iff.1 hk).1 (fun e=>?_)).trans hk
 have:=hr g e.symm
 have:=(Array.getElem?_eq_some_iff.1 h1).1
 omega
theorem bE.kpT {w w':World} {base:Nat} {v:Value} {xs:List Int} (h:bE w base v xs) (hk:KpT w w'):bE w' base v xs:=by
 refine⟨h.1,?_⟩
 rcases h.2 with h0|⟨g,cap,cur,e,hb,hg,hr⟩
 ·exact .inl h0
 ·exact .inr ⟨g,cap,cur,e,hb,hk g cur _ hg (by decide) (by decide),hr⟩
theorem bE.off9 {w:World} {N:Nat} {v:Value} {xs:List Int} (h:bE w N v xs):Off9 w N v.ownBlock:=⟨fun g e=>by
 obtain⟨h1,cur,h2⟩:=aF h e
 exact⟨_,_,h2,by decide,by decide,by decide,.inr h1⟩⟩
theorem Wk.grown {w w':World} {B N R:Nat} {ts:List Gm.Tm} {ns:List (List Int)} {rs:List Gm.Rl} {lv:Int} {row:Option Nat} (h:Wk w B N R ts ns rs lv) (hg:w.grownBy w' row) (ho:Off9 w N row):Wk w' B N R ts ns rs lv:=by
 obtain⟨vT,vN,vR,h⟩:=h;exact⟨vT,vN,vR,h.grown hg ho⟩
structure PrJ (w0 wr:World) (B R Q:Nat) (ns:List (List Int)) (rs:List Gm.Rl) (lv:Int) (ts:List Gm.Tm) (PC:Array Value) (lf:Int) (v:Value) (acc:List Int) (p:Int):Prop where
 b:Wk wr B w0.heap.size R ts ns rs lv
 f:Gm.Fit ⟨ts,ns,rs,0⟩
 t:ts.length≤24
 w:Below B w0 wr
 k:KpT w0 wr
 q:w0.heap.size<Q
 pb:wr.heap[w0.heap.size]?=some (.cells PC 104 (0,0))
 qb:wr.heap[Q]?=some (.cells #[.int .i64 lf,v,.int .i64 p] 45 (0,0))
 o:bE wr w0.heap.size v acc
section
variable {w0 wr w':World} {B R Q:Nat} {ns:List (List Int)} {rs:List Gm.Rl} {lv:Int} {ts:List Gm.Tm} {PC:Array Value} {lf p p':Int} {v v':Value} {acc acc':List Int}
theorem PrJ.alloc (h:PrJ w0 wr B R Q ns rs lv ts PC lf v acc p) (o:Obj) (hB:B≤w0.heap.size):PrJ w0 (wr.alloc o) B R Q ns rs lv ts PC lf v acc p :=
 ⟨h.b.alloc o,h.f,h.t,h.w.alloc (Nat.le_trans hB h.w.size) o,h.k.trans (KpT.below ((Below.refl _ _).alloc (Nat.le_refl _) o)),h.q,(Below.heap_alloc wr o _ (Array.getElem?_eq_some_iff.1 h.pb).1).trans h.pb,(Below.heap_alloc wr o _ (Array.getElem?_eq_some_iff.1 h.qb).1).trans h.qb,h.o.alloc o⟩
theorem PrJ.call (h:PrJ w0 wr B R Q ns rs lv ts PC lf v acc p) {ts':List Gm.Tm} (hb:Wk w' B w0.heap.size R ts' ns rs lv) (hw:Below B wr w') (hk:KpT wr w') (hf:Gm.Fit ⟨ts',ns,rs,0⟩) (ht:ts'.length≤24):PrJ w0 w' B R Q ns rs lv ts' PC lf v acc p :=
 ⟨hb,hf,ht,h.w.trans hw,h.k.trans hk,h.q,hk _ _ _ h.pb (by decide) (by decide),hk _ _ _ h.qb (by decide) (by decide),h.o.kpT hk⟩
theorem PrJ.off (hq:w0.heap.size<Q) (qb:wr.heap[Q]?=some (.cells #[.int .i64 lf,v,.int .i64 p] 45 (0,0))):Off9 wr w0.heap.size (some Q):=⟨fun g e=>by
 injection e with e
 subst e
 exact⟨_,_,qb,by decide,by decide,by decide,.inr (by omega)⟩⟩
theorem PrJ.setQ (h:PrJ w0 wr B R Q ns rs lv ts PC lf v acc p) (j:Nat) (u:Value) (hu:(#[.int .i64 lf,v,.int .i64 p]:Array Value).setIfInBounds j u=#[.int .i64 lf,v',.int .i64 p']) (ho:bE (wr.setCell ⟨Q,j,none⟩ u) w0.heap.size v' acc) (hB:B≤w0.heap.size):PrJ w0 (wr.setCell ⟨Q,j,none⟩ u) B R Q ns rs lv ts PC lf v' acc p':=by
 have hg:wr.grownBy (wr.setCell ⟨Q,j,none⟩ u) (some Q):=aD (World.grownBy.refl _ _) j u
 have hq:=h.q
 refine⟨h.b.grown hg (PrJ.off h.q h.qb),h.f,h.t,h.w.setCell (by simp only;omega) u,h.k.beyond hg (fun k e=>by injection e with e;omega),h.q,(Below.heap_setCell wr ⟨Q,j,none⟩ u w0.heap.size (by simp only;omega)).trans h.pb,?_,ho⟩
 rw[←hu]
 exact heap_setCell_same wr _ j _ _ u h.qb
theorem PrJ.app (h:PrJ w0 wr B R Q ns rs lv ts PC lf v acc p) (ho:bE w' w0.heap.size v' acc') (hg:wr.grownBy w' v.ownBlock) (hB:B≤w0.heap.size) :
  (w'.heap[Q]?=some (.cells #[.int .i64 lf,v,.int .i64 p] 45 (0,0)))∧PrJ w0 (w'.setCell ⟨Q,1,none⟩ v') B R Q ns rs lv ts PC lf v' acc' p:=by
 have hb':=h.b.grown hg h.o.off9
 have pb':=zad h.pb h.o (by decide) hg
 have qb':=zad h.qb h.o (by decide) hg
 have hN:∀k,v.ownBlock=some k→w0.heap.size≤k:=fun k e=>(aF h.o e).1
 have hw':=h.w.grown hg (Nat.le_trans hB h.w.size) (fun k e=>Nat.le_trans hB (hN k e))
 have hk':=h.k.beyond hg hN
 have hq:=h.q
 have hg2:w'.grownBy (w'.setCell ⟨Q,1,none⟩ v') (some Q):=aD (World.grownBy.refl _ _) 1 v'
 exact⟨qb',hb'.grown hg2 (PrJ.off h.q qb'),h.f,h.t,hw'.setCell (by simp only;omega) v',hk'.beyond hg2 (fun k e=>by injection e with e;omega),h.q,(Below.heap_setCell w' ⟨Q,1,none⟩ v' w0.heap.size (by simp only;omega)).trans pb',heap_setCell_same w' _ 1 _ _ v' qb',ho.set_away qb' 1 v'⟩
end
theorem zd0 {ns:List (List Int)} {rs:List Gm.Rl} {ts ts':List Gm.Tm} {x:Tok} {z:Int} (h:Gm.symR ns ts x=.ok (ts',z)) (hx:K.Tx x.t) (hf:Gm.Fit ⟨ts,ns,rs,0⟩):((0≤Gm.find ns x.t∧true=true∧ts'=ts∧z = -1-Gm.find ns x.t)∨(Gm.find ns x.t<0∧Gm.sym ts x=.ok (ts',z)))∧Gm.Fit ⟨ts',ns,rs,0⟩:=by
 unfold Gm.symR at h
 split at h
 ·rename_i h0
  injection h with h
  injection h with h1 h2
  subst h1
  exact⟨.inl ⟨h0,rfl,rfl,h2.symm⟩,hf⟩
 ·rename_i h0
  refine⟨.inr ⟨by omega,h⟩,?_⟩
  unfold Gm.sym at h
  split at h
  ·exact Fit.put hf hx h
  ·cases h
theorem zd2 {ns:List (List Int)} {rs:List Gm.Rl} {ts ts':List Gm.Tm} {x:Tok} {z:Int} (h:Gm.symP ns ts x=.ok (ts',z)) (hx:K.Tx x.t) (hf:Gm.Fit ⟨ts,ns,rs,0⟩):((0≤Gm.find ns x.t∧false=true∧ts'=ts∧z = -1-Gm.find ns x.t)∨(Gm.find ns x.t<0∧Gm.sym ts x=.ok (ts',z)))∧Gm.Fit ⟨ts',ns,rs,0⟩:=by
 unfold Gm.symP at h
 split at h
 ·cases h
 ·rename_i h0
  refine⟨.inr ⟨by omega,h⟩,?_⟩
  unfold Gm.sym at h
  split at h
  ·exact Fit.put hf hx h
  ·cases h
end Go.Proofs.YtkfelkpilaipnaaGreatDoor
