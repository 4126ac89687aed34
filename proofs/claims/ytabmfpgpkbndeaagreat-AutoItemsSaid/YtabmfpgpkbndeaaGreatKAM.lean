/- Part of the proofs over this program: AuWalk, AuWalk2, CfgRead, Ref8M, Read9, Src9, Alive15T, Alive15, RowKit. -/
import Derived.Test.YtabmfpgpkbndeaaGreatRows
import Derived.SizedLaws
import Derived.LaidMore
import Derived.Stop.Joined
import Derived.ShutString
import Derived.ChangeOld
import Derived.Test.YtabmfpgpkbndeaaGreatKAL
namespace Go.Proofs.YtabmfpgpkbndeaaGreat
set_option maxRecDepth 100000
set_option maxHeartbeats 40000000
open Go.RowKit
namespace Au
def inR (n:Nat) (q:Int):Bool:=decide (0≤q)&&decide (q<(n:Int))
theorem inR_iff {n:Nat} {q:Int}:inR n q=true↔0≤q∧q<(n:Int):=by unfold inR;simp
def FirstAt (l:List (Int×Int)) (s:Int) (i:Nat):Prop:=(∃h:i<l.length,(l[i]).1=s)∧∀j (h:j<l.length),j<i→(l[j]).1≠s
theorem lead_at:∀ {l:List (Int×Int)} {s:Int} {i:Nat} (_:FirstAt l s i) (hi:i<l.length),lead l s=(l[i]).2
 | [],_,_,_,hi=>by simp at hi
 | x::l,s,0,h,hi=>by
  obtain⟨⟨_,h1⟩,_⟩:=h
  have h1:x.1=s:=h1
  unfold lead
  rw[List.find?_cons_of_pos (by simpa using h1)];rfl
 | x::l,s,i+1,h,hi=>by
  obtain⟨⟨h0,h1⟩,h2⟩:=h
  have hx:x.1≠s:=h2 0 (by simp) (by omega)
  have ih:=lead_at (l:=l) (s:=s) (i:=i) ⟨⟨by simpa using h0,by simpa using h1⟩,fun j hj hji=>by
   have:=h2 (j+1) (by simpa using hj) (by omega)
   simpa using this⟩ (by simpa using hi)
  unfold lead at ih ⊢
  rw[List.find?_cons_of_neg (by simpa using hx),ih];rfl
theorem lead_no {l:List (Int×Int)} {s:Int} (h:∀x∈l,x.1≠s):lead l s = -1:=by
 unfold lead
 rw[List.find?_eq_none.2 (fun x hx=>by simpa using h x hx)];rfl
theorem wlk_nil (E:List (List (Int×Int))) (q:Int):wlk E q []=if inR E.length q=true then some q else none:=by
 rw[wlk]
 by_cases h:inR E.length q=true
 ·rw[if_pos h,if_pos (inR_iff.1 h)]
 ·rw[if_neg h,if_neg (fun k=>h (inR_iff.2 k))]
end Au
theorem zcd (A:Option Addr) (n c:Nat) (q:Int) (w:World) :
  Calls Tryz.prog 39 #[.slice A n c,.int .i64 q] w fun e w'=>e=.returned (.bool (Au.inR n q))∧w'=w:=by
 by_cases h0:0≤q
 ·by_cases h1:q<(n:Int)
  ·have HE:=aA (show true=Au.inR n q from(Au.inR_iff.2 ⟨h0,h1⟩).symm)
   go_enter Tryz.func39,Tryz.ntmps39
   go_wp2
   go_ret
   exact⟨aC HE.out,rfl⟩
  ·have HE:=aA (show false=Au.inR n q by unfold Au.inR;rw[decide_eq_false h1,Bool.and_false])
   have HF:=aA (decide_eq_false h1)
   go_enter Tryz.func39,Tryz.ntmps39
   go_wp2
   go_ret
   exact⟨aC (by first|exact HE.out|exact HF.out.trans HE.out),rfl⟩
 ·have HE:=aA (show false=Au.inR n q by unfold Au.inR;rw[decide_eq_false h0,Bool.false_and])
  go_enter Tryz.func39,Tryz.ntmps39
  go_wp2
  go_ret
  exact⟨aC HE.out,rfl⟩
theorem zeZ (x:Int×Int) (s:Int) (pS:Nat) (b:Bool) (hb:(x.1==s)=b) (w:World) (hs:w.cell? ⟨pS,0,none⟩=some (.int .i64 s)) :
  Calls Tryz.prog 64 #[.agg #[.int .i64 x.1,.int .i64 x.2],.pointer (some ⟨pS,0,none⟩)] w fun e w'=>e=.returned (.bool b)∧Below w.heap.size w w':=by
 have HS0:=aA (aZ.start 52 w #[.int .i64 x.1,.int .i64 x.2])
 have x0:=HS0.out.c 0 _ rfl
 have s0:=(HS0.out.below.cell (p:=⟨pS,0,none⟩) (show pS<w.heap.size from Go.block_lt_of_cell hs)).trans hs
 clear hs
 go_enter Tryz.func64,Tryz.ntmps64
 go_wp2
 go_ret
 exact⟨rfl,HS0.out.below⟩
theorem zhn (l:List (Int×Int)) (s:Int) (pS:Nat) (A:Option Addr) (c B:Nat) (w:World) (hr:RdQ 2 prF w B A l) (hB:B≤w.heap.size) (hl:l.length≤9223372036854775807) (hs:w.cell? ⟨pS,0,none⟩=some (.int .i64 s)) :
  Calls Tryz.prog 63 #[.slice A l.length c,.func (Fn.func 64) #[] #[.pointer (some ⟨pS,0,none⟩)]] w fun e w'=>(∃k:Int,e=.returned (.int .i64 k)∧((∃i:Nat,k=i∧Au.FirstAt l s i)∨(k = -1∧∀x∈l,x.1≠s)))∧Below w.heap.size w w':=by
 have HR:=aA hr
 have HB:=aA hB
 have hpS:pS<w.heap.size:=Go.block_lt_of_cell hs
 have HST:=aA (fun(y:World) (h:Below w.heap.size w y) x b hb=>zeZ x s pS b hb y ((h.cell (p:=⟨pS,0,none⟩) hpS).trans hs))
 have hlen:(l.length:Int)≤9223372036854775807:=by omega
 clear hr hB hl hs hpS
 go_enter Tryz.func63,Tryz.ntmps63
 go_wp2
 go_loopw [8] (fun vi wr=>∃k:Nat,k≤l.length∧vi=.int .i64 k∧Hid (∀j (h:j<l.length),j<k→(l[j]).1≠s)∧Hid (Below w.heap.size w wr)) (fun vi _=>l.length-(intOf vi).toNat)
 case atStart=>exact⟨0,Nat.zero_le _,rfl,aA (fun j _ h=>absurd h (Nat.not_lt_zero _)),aA (Below.refl _ _)⟩
 case round =>
  obtain⟨k,hk,rfl,HK,HW⟩:=hrel
  by_cases hlt:k<l.length
  ·obtain⟨g,o,rfl,hgb,hc⟩:=HR.out (by omega)
   have hgw:g<w.heap.size:=Nat.lt_of_lt_of_le hgb HB.out
   have k0:wr.cell? ⟨g,o+k*2,none⟩=some (.int .i64 (l[k]).1):=(HW.out.cell (p:=⟨g,o+k*2,none⟩) hgw).trans (hc k hlt 0 _ rfl)
   have k1:wr.cell? ⟨g,o+k*2+1,none⟩=some (.int .i64 (l[k]).2):=(HW.out.cell (p:=⟨g,o+k*2+1,none⟩) hgw).trans (hc k hlt 1 _ rfl)
   have HN:Hid ((l[k]).1≠s→∀j (h:j<l.length),j<k+1→(l[j]).1≠s):=aA (fun h1 j h h2=>by
    rcases Nat.lt_or_ge j k with h3|h3
    ·exact HK.out j h h3
    ·obtain rfl:j=k:=by omega
     exact h1)
   have HY:Hid ((l[k]).1=s→Au.FirstAt l s k):=aA (fun h1=>⟨⟨hlt,h1⟩,HK.out⟩)
   clear hc
   generalize l[k]=x at *
   by_cases hx:x.1=s
   ·have HF:=aA (HY.out hx)
    have HSX:=aA (HST.out wr HW.out x true (by rw[beq_iff_eq];exact hx))
    clear hx HN HY
    go_wp2_with fail
    refine HSX.out.mono ?_;rintro _ w2 ⟨rfl,hb⟩
    have HW2:=aA (HW.out.trans (hb.mono HW.out.size))
    clear hb
    go_wp2
    go_ret
    exact⟨⟨_,rfl,.inl ⟨k,rfl,HF.out⟩⟩,HW2.out⟩
   ·have HF:=aA (HN.out hx)
    have HSX:=aA (HST.out wr HW.out x false (by rw[beq_eq_false_iff_ne];exact hx))
    clear hx HN HY
    go_wp2_with fail
    refine HSX.out.mono ?_;rintro _ w2 ⟨rfl,hb⟩
    have HW2:=aA (HW.out.trans (hb.mono HW.out.size))
    clear hb
    go_wp2
    go_roundw
    case rel=>exact⟨k+1,hlt,by go_num,HF,HW2⟩
    case measure=>simp[intOf];omega
  ·obtain rfl:k=l.length:=by omega
   have HF:Hid (∀x∈l,x.1≠s):=aA (fun x hx=>by
    obtain⟨j,hj,rfl⟩:=List.getElem_of_mem hx
    exact HK.out j hj hj)
   go_wp2
   go_ret
   exact⟨⟨_,rfl,.inr ⟨rfl,HF.out⟩⟩,HW.out⟩
theorem zgJ (ss:List StT) (A:Option Addr) (c B:Nat) (q:Nat) (s:Int) (w:World) (hr:bI w B A ss) (hB:B≤w.heap.size) (hq:q<ss.length) (hn:ss.length≤100000) :
  Calls Tryz.prog 40 #[.slice A ss.length c,.int .i64 (q:Nat),.int .i64 s] w fun e w'=>(∃z:Int,e=.returned (.tuple #[.int .i64 z,.bool (Au.inR ss.length (Au.lead (ss[q]).2 s))])∧(Au.inR ss.length (Au.lead (ss[q]).2 s)=true→z=Au.lead (ss[q]).2 s))∧Below w.heap.size w w':=by
 obtain⟨g,o,rfl,hgB,hc⟩:=hr (by omega)
 obtain⟨A2,c2,k1,hl2,hm2,hr2⟩:=(hc q hq).2
 have HS0:=aA (aZ.start 3 w #[.int .i64 s])
 have HB:=aA hB
 have hgw:g<w.heap.size:=Nat.lt_of_lt_of_le hgB hB
 have k1a:=(HS0.out.below.cell (p:=⟨g,o+q*2+1,none⟩) hgw).trans k1
 have HX:=aA (fun y (h:aZ 3 w #[.int .i64 s] y)=>zhn (ss[q]).2 s w.heap.size A2 c2 B y (hr2.below h.below hB) (Nat.le_trans hB h.below.size) (by omega) (h.c 0 _ rfl))
 have HIS:=aA (fun z y=>zcd (some ⟨g,o,none⟩) ss.length c z y)
 have HR2:=aA hr2
 have hqI:((q:Nat):Int)<(ss.length:Int):=by omega
 have hnI:(ss.length:Int)≤100000:=by omega
 have HK1:=aA k1
 have HM2:=aA hm2
 have HC2:=aA hl2
 clear hc hr hr2 hl2 hm2 k1
 generalize (ss[q]).2=l at *
 clear hq
 generalize ss.length=n at *
 go_enter Tryz.func40,Tryz.ntmps40
 have hmf:∀(fn:Fn) (first cap:Array Value) (w:World),(Instr.makeFunc fn first cap).run Tryz.prog w=.ok (.func fn first cap) w:=fun _ _ _ _=>rfl
 go_wp2_with fail
 refine(HX.out _ HS0.out).mono ?_;rintro _ w2 ⟨⟨k,rfl,hk⟩,hb⟩
 have HB2:=aA (HS0.out.on hb)
 have k2:=(HB2.out.below.cell (p:=⟨g,o+q*2+1,none⟩) hgw).trans HK1.out
 rcases hk with⟨i,rfl,hi⟩|⟨rfl,hno⟩
 ·have hil:i<l.length:=hi.1.1
  have HLE:=aA (Au.lead_at hi hil)
  obtain⟨g2,o2,rfl,hg2,hc2⟩:=HR2.out (by omega)
  have k3:w2.cell? ⟨g2,o2+i*2+1,none⟩=some (.int .i64 (l[i]).2):=(HB2.out.below.cell (p:=⟨g2,o2+i*2+1,none⟩) (Nat.lt_of_lt_of_le hg2 HB.out)).trans (hc2 i hil 1 _ rfl)
  have hiI:((i:Nat):Int)<(l.length:Int):=by omega
  have hlI:(l.length:Int)≤9223372036854775807:=by have h1:c2≤9223372036854775807:=HM2.out;have h2:l.length≤c2:=HC2.out;omega
  have HISX:=aA (HIS.out (l[i]).2)
  rw[←HLE.out]at k3 HISX
  clear hc2 hb hi HLE
  go_wp2_with fail
  refine(HISX.out _).mono ?_;rintro _ w3 ⟨rfl,hw3⟩
  subst hw3
  go_wp2
  go_ret2
  exact⟨⟨_,rfl,fun _=>rfl⟩,HB2.out.below⟩
 ·have HLE:=aA (Au.lead_no hno)
  clear hno hb
  go_wp2
  go_ret2
  rw[HLE.out]
  exact⟨⟨0,rfl,fun h=>by have:=(Au.inR_iff.1 h).1;omega⟩,HB2.out.below⟩
def Au.wlkS (ss:List StT) (q:Int) (sy:List Int):Option Int:=Au.wlk (ss.map (·.2)) q sy
theorem Au.wlkS_nil (ss:List StT) (q:Int):Au.wlkS ss q []=if Au.inR ss.length q=true then some q else none:=by
 unfold Au.wlkS
 rw[Au.wlk_nil,List.length_map]
theorem Au.wlkS_snoc (ss:List StT) (q:Int) (a:List Int) (s:Int):Au.wlkS ss q (a++[s])=(Au.wlkS ss q a).bind fun q1=>Au.wlkS ss (Au.lead ((ss.map (·.2)).getD q1.toNat []) s) []:=Au.wlk_snoc
theorem zdI (ss:List StT) (A:Option Addr) (c B:Nat) (q:Int) (sy:List Int) (AY:Option Addr) (cY BY:Nat) (w:World) (hr:bI w B A ss) (hB:B≤w.heap.size) (hn:ss.length≤100000) (hy:RdI w BY AY sy) (hBY:BY≤w.heap.size) (hyl:sy.length≤100000) :
  Calls Tryz.prog 21 #[.slice A ss.length c,.int .i64 q,.slice AY sy.length cY] w fun e w'=>e=.returned (.tuple #[.int .i64 ((Au.wlkS ss q sy).getD 0),.bool (Au.wlkS ss q sy).isSome])∧Below w.heap.size w w':=by
 have HIS:=aA (fun y=>zcd A ss.length c q y)
 have HSP:=aA (fun(y:World) (h:Below w.heap.size w y) (i:Nat) (s:Int) (hi:i<ss.length)=>zgJ ss A c B i s y (hr.below h hB) (Nat.le_trans hB h.size) hi hn)
 have HY:=aA hy
 have HBY:=aA hBY
 have hyI:(sy.length:Int)≤100000:=by omega
 have H0:Hid (Au.wlkS ss q (sy.take 0)=if Au.inR ss.length q=true then some q else none):=aA (by rw[List.take_zero];exact Au.wlkS_nil ss q)
 clear hr hB hy hBY hyl
 go_enter Tryz.func21,Tryz.ntmps21
 go_wp2_with fail
 refine(HIS.out _).mono ?_;rintro _ w1 ⟨rfl,hw1⟩
 subst hw1
 generalize Au.inR ss.length q=b0 at *
 go_wp2
 go_loopw [8,9,18] (fun va vo vi wr=>∃(i:Nat) (z:Int) (b:Bool),i≤sy.length∧va=.int .i64 z∧vo=.bool b∧vi=.int .i64 i∧Hid (Au.wlkS ss q (sy.take i)=if b=true then some z else none)∧Hid (Below w1.heap.size w1 wr)) (fun _ _ vi _=>sy.length-(intOf vi).toNat)
 case atStart=>exact⟨0,q,b0,Nat.zero_le _,rfl,rfl,rfl,H0,aA (Below.refl _ _)⟩
 case round =>
  obtain⟨i,z,b,hi,rfl,rfl,rfl,HQ,HW⟩:=hrel
  by_cases hlt:i<sy.length
  ·obtain⟨g,o,rfl,hgB,hc⟩:=HY.out (by omega)
   have k0:=(HW.out.cell (p:=⟨g,o+i,none⟩) (Nat.lt_of_lt_of_le hgB HBY.out)).trans (hc i hlt)
   rw[L.gd_lt hlt]at k0
   have HTK:Hid (Au.wlkS ss q (sy.take (i+1))=(Au.wlkS ss q (sy.take i)).bind fun q1=>Au.wlkS ss (Au.lead ((ss.map (·.2)).getD q1.toNat []) sy[i]) []):=aA (by rw[List.take_succ_eq_append_getElem hlt,Au.wlkS_snoc])
   have HEND:Hid (b=false→Au.wlkS ss q sy=none):=aA (fun e=>by
    have h1:=HQ.out
    rw[e,if_neg (by decide)]at h1
    have h2:=Au.wlk_none (E:=ss.map (·.2)) (b:=sy.drop i) (show Au.wlk (ss.map (·.2)) q (sy.take i)=none from h1)
    rw[List.take_append_drop]at h2
    exact h2)
   clear hc hgB
   generalize sy[i]=s at *
   cases b
   ·have HN:=aA (HEND.out rfl)
    clear HTK HEND
    go_wp2
    go_ret2
    exact⟨by rw[HN.out];rfl,HW.out⟩
   ·have hz:0≤z∧z<(ss.length:Int):=by
     have h1:=Au.wlk_in HQ.out
     rw[List.length_map]at h1
     exact h1
    obtain⟨m,rfl⟩:∃m:Nat,z=(m:Int):=⟨z.toNat,by omega⟩
    have hml:m<ss.length:=by omega
    have HSX:=aA (HSP.out wr HW.out m s hml)
    have HNX:Hid (Au.wlkS ss q (sy.take (i+1))=Au.wlkS ss (Au.lead (ss[m]).2 s) []):=aA (by
     rw[HTK.out,HQ.out,if_pos rfl,Option.bind_some,show((m:Int)).toNat=m by omega,List.getD_eq_getElem?_getD,List.getElem?_map,List.getElem?_eq_getElem hml];rfl)
    have HNL:=aA (Au.wlkS_nil ss (Au.lead (ss[m]).2 s))
    clear HTK HEND hz
    generalize Au.lead (ss[m]).2 s=t at *
    generalize Au.inR ss.length t=b2 at *
    go_wp2_with fail
    refine HSX.out.mono ?_;rintro _ w2 ⟨⟨z2,rfl,hz2⟩,hb2⟩
    have HW2:=aA (HW.out.trans (hb2.mono HW.out.size))
    have HZ2:=aA hz2
    clear hb2 hz2
    go_wp2
    go_roundw
    case rel=>exact⟨i+1,z2,b2,hlt,rfl,rfl,by go_num,aA (by
     rw[HNX.out,HNL.out]
     cases b2
     ·rfl
     ·rw[HZ2.out rfl]),HW2⟩
    case measure=>simp[intOf];omega
  ·obtain rfl:i=sy.length:=by omega
   rw[List.take_length]at HQ
   cases b
   ·go_wp2
    go_ret2
    exact⟨by rw[HQ.out];rfl,HW.out⟩
   ·go_wp2
    go_ret2
    exact⟨by rw[HQ.out];rfl,HW.out⟩
def rd (L:List Int):Option (Gm.R Gm.Gr):=match zh7 L with
 | .bad _ _=>none
 | .ok xs=>match Y.source xs with
  | .ok s _=>some (Gm.build s.1 s.2)
  | .bad _=>none
def Y.more:Nat→List Prd→List Tok→Res (List Prd)
 | 0,acc,ts=>.ok acc ts
 | _+1,acc,[]=>.ok acc []
 | f+1,acc,t::ts=>(group [] (t::ts)).bind fun ps r=>Y.more f (acc++ps) r
theorem Y.group_kind {t:Tok} {ts r:List Tok} {ps:List Y.Prd} (h:Y.group [] (t::ts)=.ok ps r):t.k=1:=by
 unfold Y.group at h
 obtain⟨left,m,h1,h⟩:=Y.bind_eq_ok h
 obtain⟨e,hk⟩:=Y.take_ok h1
 injection e with e _
 subst e
 simpa using hk
theorem zh2 {w:World} {o:Oper} {a:Act} {K:Act→World→Prop} {Q:Exit→Act→World→Prop}
  (s x:Operand) (t:TypeId) (ho:o.op=.call {callee:=.builtin .append,args:=#[s,x],argTypes:=#[t,t]}) (ht:Tryz.prog.underlying t=some (.slice 120))
  (L:List Int) (base bu:Nat) (v u:Value) (xs ys:List Y.Prd) (hs:a.eval s=v) (hown:bD L w base v xs) (hx:a.eval x=u) (hsrc:bD L w bu u ys) (hbu:base≤bu)
  (hlen:xs.length+ys.length≤1000000) (hbase:base≤w.heap.size)
  (hK:∀v' w',bD L w' base v' (xs++ys)→w.grownBy w' v.ownBlock→K (a.put o.dst v') w') :
  o.wp Tryz.prog a w K Q:=by
 obtain⟨i,hi,hz0,hz1,hz2⟩:=info_parts zjh
 have hown0:=hown
 obtain⟨qs,hq1,hq2,hq3⟩:=hown
 obtain⟨qy,hy1,hy2,hy3⟩:=hsrc
 have hlq:qs.length=xs.length:=by rw[←hq1,List.length_map]
 have hly:qy.length=ys.length:=by rw[←hy1,List.length_map]
 have hpl:(zg4 L qy).length=ys.length*5:=hy2.1
 rcases hy2.2 with⟨rfl,h0⟩|⟨g,cap,cur,rfl,hb,hg,hn,hm,hc,htk⟩
 ·have hz:ys=[]:=List.eq_nil_of_length_eq_zero h0
  subst hz
  have hrun:=zah (P:=Tryz.prog) w base t o.type 120 i 5 ht hi v xs.length _ hq2 0
  unfold Oper.wp
  simp[execOp,ho,resolve,invoke,builtin,hs,hx,hrun,Result.andThen]
  exact hK v w (by simpa using hown0) (World.grownBy.refl _ _)
 ·refine wp_append_own w s x t ho base 120 i _ 5 88 ht hi hz0 hz1 hz2 rfl (by decide) v xs.length (zg4 L qs) hs hq2 ⟨g,0,none⟩ ys.length cap (zg4 L qy) hx hpl ?_ ?_ (by unfold maxLen;omega) (by omega) hbase fun v' w' h1 h2 _=>hK v' w' ?_ h2
  ·intro j z hj
   have hjl:j<ys.length*5:=by have:=(List.getElem?_eq_some_iff.1 hj).1;omega
   rw[zdH,Nat.zero_add,cell_of_row w g _ _ _ _ hg]
   rw[←htk,List.getElem?_take_of_lt hjl]at hj
   simpa using hj
  ·intro z hz
   obtain⟨q,_,hz⟩:=List.mem_flatMap.1 hz
   exact zcF L q.1 q.2.1 q.2.2 z hz
  ·have hoo:=zas hq2 (by decide)
   refine⟨qs++qy,by rw[List.map_append,hq1,hy1],?_,fun q hq=>?_⟩
   ·rw[List.length_append]
    unfold zg4 at h1 ⊢
    rw[List.flatMap_append]
    exact h1
   ·rcases List.mem_append.1 hq with h|h
    ·exact(hq3 q h).grown h2 hoo
    ·exact((hy3 q h).less hbu).grown h2 hoo
theorem Rd8.dlen {L:List Int} {B R px py:Nat} {w:World} {ts:List Tok} (h:Rd8 L B R px py w ts):zc9 R w=ts.length:=by
 obtain⟨A,c,h0,_⟩:=h.cell0
 unfold zc9
 rw[h0]
theorem zdy {w:World} {base base':Nat} {v v':Value} {n n' size size':Nat} {e e':TypeId} {xs xs':List Value} (h:w.ownsRow base e size v n xs) (h':w.ownsRow base' e' size' v' n' xs') (he:e≠e'):v.ownBlock=none∨v.ownBlock≠v'.ownBlock:=by
 rcases h'.2 with⟨rfl,_⟩|⟨g,cap,cur,rfl,_,hg,_⟩
 ·rcases hv:v.ownBlock with _|k
  ·exact .inl rfl
  ·exact .inr (by simp[Value.ownBlock])
 ·exact .inr (zer h hg he)
theorem of8m (L:List Int) (A:Option Addr) (c px py:Nat) (ts:List Tok) (ds:List Y.Dcl) (p1 ps:List Y.Prd) (f1:Nat) (m m2 r1:List Tok) (t9:Tok) (w:World) (hr:RdT L w w.heap.size A ts) (hc:ts.length≤c) (h4:ts.length≤4000)
  (hd:Y.decls (ts.length+1) [] ts=.ok ds m) (hk:∀d∈ds,d.k=4∨d.k=5) (h9:Y.take [9] m=.ok t9 m2) (hg:Y.group [] m2=.ok p1 r1) (hmo:Y.more f1 p1 r1=.ok ps []) :
  Calls Tryz.prog 70 #[.slice A ts.length c,.complex .f64 px py] w fun e w'=>∃dv pv,e=.returned (.tuple #[.agg #[dv,pv],.complex .f64 0 0,.int .i64 0])∧bE L w' w.heap.size dv ds∧bD L w' w.heap.size pv ps∧Below w.heap.size w w':=by
 have SC:=fun a w m X Y=>show(store a (.complex .f64 X Y) m).run Tryz.prog w=stored Tryz.prog w a (.complex .f64 X Y) m from run_store _ w a _ m rfl
 have BR:=fun A (n c:Nat) X Y w=>(run_build w 148 _ _ (by kernel_rfl):(Instr.build 148 #[(0,.slice A n c),(1,.complex .f64 X Y)]).run Tryz.prog w=.ok (.agg #[.slice A n c,.complex .f64 X Y,.complex .f64 0 0,.int .i64 0]) w)
 have BS:=fun A (n c:Nat) w=>(run_build w 78 _ _ (by kernel_rfl):(Instr.build 78 #[(0,.slice A n c)]).run Tryz.prog w=.ok (.agg #[.slice A n c,.slice none 0 0]) w)
 have HB0:=aA (((Below.refl w.heap.size w).alloc (Nat.le_refl _) (.cells #[.slice none 0 0,.slice none 0 0] 78)).alloc (by simp) (.cells #[.slice A ts.length c,.complex .f64 px py,.complex .f64 0 0,.int .i64 0] 148))
 have HR1:Hid (Rd8 L w.heap.size (w.heap.size+1) px py ((w.alloc (.cells #[.slice none 0 0,.slice none 0 0] 78)).alloc (.cells #[.slice A ts.length c,.complex .f64 px py,.complex .f64 0 0,.int .i64 0] 148)) ts):=aA ⟨A,c,by have:=heap_alloc_new (w.alloc (.cells #[.slice none 0 0,.slice none 0 0] 78)) (.cells #[.slice A ts.length c,.complex .f64 px py,.complex .f64 0 0,.int .i64 0] 148);rwa [show(w.alloc (.cells #[.slice none 0 0,.slice none 0 0] 78)).heap.size=w.heap.size+1 by simp]at this,hc,h4,hr.below HB0.out (Nat.le_refl _),by omega⟩
 have HD:=aA (fun(x:World) (B R:Nat) (h:Rd8 L B R px py x ts)=>zjs L B R px py (ts.length+1) ts ds m x h hd (by omega) hk)
 have H9:=aA (fun(x:World) (B R:Nat) (h:Rd8 L B R px py x m)=>zcy L B R px py m 9 9 x h t9 m2 ((zbJ 9 m).trans h9))
 have HG:=aA (fun(x:World) (B R:Nat) (h:Rd8 L B R px py x m2)=>zhU L B R px py m2 p1 r1 x h hg)
 have HMO:=aA hmo
 have HGL:=aA (Y.group_len hg)
 unfold bO at H9
 clear hr hc h4 hd hk h9 hg hmo
 go_enter Tryz.func70,Tryz.ntmps70
 go_wp2_with fail
 refine(HD.out _ _ _ HR1.out).mono ?_;rintro _ w2 ⟨hg2,v2,rfl,ho2,hr2⟩
 have hz0:=zac hg2 ((Below.block (B:=w.heap.size+1) ((Below.refl _ (w.alloc (.cells #[.slice none 0 0,.slice none 0 0] 78))).alloc (by simp) (.cells #[.slice A ts.length c,.complex .f64 px py,.complex .f64 0 0,.int .i64 0] 148)) w.heap.size (by omega)).trans (heap_alloc_new w _)) (by omega)
 obtain⟨A2,c2,rfl,_,_⟩:=ho2.form
 have HG2:=aA hg2
 have hs2:w.heap.size+2≤w2.heap.size:=by have:=hg2.size;simpa using this
 have HO2:=aA ho2
 have HRO:=aA hr2.other
 have HR2:=aA (hr2.alloc (.cells #[.slice A2 ds.length c2,.slice none 0 0] 78))
 have HZ2:=aA ((Below.heap_alloc w2 (.cells #[.slice A2 ds.length c2,.slice none 0 0] 78) w.heap.size (by omega)).trans hz0)
 clear hg2 ho2 hr2 hz0
 go_wp2_with fail
 refine(H9.out _ _ _ HR2.out).mono ?_;rintro _ w3 ⟨rfl,hg3,hr3⟩
 have HG3:=aA hg3
 have HR3:=aA hr3
 have HZ3:=aA (zac hg3 HZ2.out (by omega))
 have HB3:=aA (zcN hg3 (by omega:w.heap.size+1<w2.heap.size))
 clear hg3 hr3
 go_wp2_with fail
 have HL1:Hid (p1.length+r1.length≤4000):=aA (by have h1:=HGL.out;have h2:=HR3.out.len;simp at h1;omega)
 refine(HG.out _ _ _ HR3.out).mono ?_;rintro _ w4 ⟨hg4,v4,rfl,ho4,hr4⟩
 obtain⟨A4,c4,rfl,_,_⟩:=ho4.form
 have hs3:w2.heap.size+1≤w3.heap.size:=by have:=HG3.out.size;simpa using this
 have hs4:w3.heap.size≤w4.heap.size:=hg4.size
 have hb4:=zac hg4 HB3.out (by omega)
 have hz4:=zac hg4 HZ3.out (by omega)
 have HGA:=aA ((aF HG2.out (.cells #[.slice A2 ds.length c2,.slice none 0 0] 78)).trans (HG3.out.trans hg4))
 have b0:=cell_of_row w4 _ 0 _ _ _ hb4
 have b1:=cell_of_row w4 _ 1 _ _ _ hb4
 have fb1:=frozen_of_row w4 _ 1 _ _ hb4
 have z0:=cell_of_row w4 _ 0 _ _ _ hz4
 have z1:=cell_of_row w4 _ 1 _ _ _ hz4
 have fz0:=frozen_of_row w4 _ 0 _ _ hz4
 have fz1:=frozen_of_row w4 _ 1 _ _ hz4
 have hRl:=hr4.lt
 have HO4:=aA ho4
 have HOD4:=aA (HO2.out.grown ((aF (World.grownBy.refl w2 (some (w.heap.size+1))) (.cells #[.slice A2 ds.length c2,.slice none 0 0] 78)).trans (HG3.out.trans hg4)) ⟨HRO.out,by obtain⟨z,hz⟩:=HO2.out.own;simp at hz;exact zaq hz (by omega)⟩)
 have HW5:∃w5:World,w5=w4.setCell ⟨w2.heap.size,1,none⟩ (.slice A4 p1.length c4):=⟨_,rfl⟩
 obtain⟨w5,hw5⟩:=HW5
 have hb5:w5.heap[w2.heap.size]?=some (.cells #[.slice A2 ds.length c2,.slice A4 p1.length c4] 78 (0,0)):=by rw[hw5,heap_setCell_same w4 _ 1 _ _ _ hb4];rfl
 have hz5:w5.heap[w.heap.size]?=some (.cells #[.slice none 0 0,.slice none 0 0] 78 (0,0)):=by rw[hw5,Below.heap_setCell _ _ _ _ (by simp only;omega)];exact hz4
 have HR5:Hid (Rd8 L w.heap.size (w.heap.size+1) px py w5 r1):=aA (by rw[hw5];exact hr4.far _ _ _ (by omega))
 have HOD5:Hid (bE L w5 (w.heap.size+2) (.slice A2 ds.length c2) ds):=aA (by rw[hw5];have h:=HOD4.out.grown (aD (World.grownBy.refl w4 (some w2.heap.size)) 1 (.slice A4 p1.length c4)) ⟨zar hb4,by obtain⟨z,hz⟩:=HOD4.out.own;exact aP hz hb4 (fun cur e=>by injection e with _ e;exact absurd e (by decide))⟩;simpa using h)
 have HOP5:Hid (bD L w5 w3.heap.size (.slice A4 p1.length c4) p1):=aA (by rw[hw5];exact ho4.grown (aD (World.grownBy.refl w4 (some w2.heap.size)) 1 (.slice A4 p1.length c4)) ⟨zar hb4,by obtain⟨z,hz⟩:=ho4.own;exact aP hz hb4 (fun cur e=>by injection e with _ e;exact absurd e (by decide))⟩)
 have HBW:Hid (Below w.heap.size w w5):=aA (by
  rw[hw5]
  refine Below.setCell ?_ (p:=⟨w2.heap.size,1,none⟩) (by simp only;omega) _
  exact HB0.out.grown HGA.out (by simp;omega) (fun k e=>by injection e with e;omega))
 clear hg4 ho4 hr4
 go_wp2_with fail
 rw[←hw5]
 have HB5:=aA hb5
 have HZ5:=aA hz5
 have hpb5:w3.heap.size≤w5.heap.size:=by rw[hw5];simp;omega
 clear hw5 hb5 hz5 b0 b1 fb1 z0 z1 fz0 fz1 hb4 hz4 HO4 HOD4
 go_loopw [] (fun wt=>∃(f:Nat) (acc:List Y.Prd) (rest:List Tok) (A:Option Addr) (c:Nat),Hid (Y.more f acc rest=.ok ps [])∧acc.length+rest.length≤4000∧wt.heap[w2.heap.size]?=some (.cells #[.slice A2 ds.length c2,.slice A acc.length c] 78 (0,0))∧wt.heap[w.heap.size]?=some (.cells #[.slice none 0 0,.slice none 0 0] 78 (0,0))∧Rd8 L w.heap.size (w.heap.size+1) px py wt rest∧bE L wt (w.heap.size+2) (.slice A2 ds.length c2) ds∧bD L wt w3.heap.size (.slice A acc.length c) acc∧Below w.heap.size w wt∧w3.heap.size≤wt.heap.size) (fun wt=>zc9 (w.heap.size+1) wt)
 case atStart=>exact⟨f1,p1,r1,A4,c4,HMO,HL1.out,HB5.out,HZ5.out,HR5.out,HOD5.out,HOP5.out,HBW.out,hpb5⟩
 case round =>
  clear HMO HL1 HB5 HZ5 HR5 HOD5 HOP5 HBW hpb5
  obtain⟨f,acc,rest,A,c,HM,hle,hsb,hzz,hrd,hod,hop,hbw,hpb⟩:=hrel
  obtain⟨Ax,cx,r0,r3,_⟩:=hrd.cell0
  have HSB:=aA hsb
  have HZZ:=aA hzz
  have HRD:=aA hrd
  have HOD:=aA hod
  have HOP:=aA hop
  have HBW:=aA hbw
  have HPB:=aA hpb
  have HLE:=aA hle
  have hsz:w.heap.size<wr.heap.size:=(Array.getElem?_eq_some_iff.1 hzz).1
  have hsbl:w2.heap.size<wr.heap.size:=(Array.getElem?_eq_some_iff.1 hsb).1
  rcases rest with _|⟨t,m1⟩
  ·have HFIN:Hid (acc=ps):=aA (by
    have h:=HM.out
    cases f with
    | zero=>injection h
    | succ f=>injection h)
   have p0:=cell_of_row wr _ 0 _ _ _ hsb
   have p1':=cell_of_row wr _ 1 _ _ _ hsb
   have y0:=cell_of_row wr _ 0 _ _ _ hzz
   have y1:=cell_of_row wr _ 1 _ _ _ hzz
   have gz0:=frozen_of_row wr _ 0 _ _ hzz
   have gz1:=frozen_of_row wr _ 1 _ _ hzz
   clear hsb hzz hrd hod hop hbw hpb hle HM
   go_wp2
   have hgf:=aD (aD (World.grownBy.refl wr (some w.heap.size)) 0 (.slice A2 ds.length c2)) 1 (.slice A acc.length c)
   refine bodyPost_ret (v:=.tuple #[.agg #[.slice A2 ds.length c2,.slice A acc.length c],.complex .f64 0 0,.int .i64 0]) (by simp[results,Tryz.results70,go_sem,y0,y1]) rfl ⟨_,_,rfl,?_,?_,?_⟩
   ·exact(HOD.out.grown hgf ⟨zar HZZ.out,by obtain⟨z,hz⟩:=HOD.out.own;exact zaq hz (by omega)⟩).less5 (by omega)
   ·rw[←HFIN.out]
    exact(HOP.out.grown hgf ⟨zar HZZ.out,by obtain⟨z,hz⟩:=HOP.out.own;exact zaq hz (by omega)⟩).less5 (by omega)
   ·exact HBW.out.grown hgf HBW.out.size (fun k e=>by injection e with e;omega)
  ·obtain⟨f,rfl⟩:∃f',f=f'+1:=by
    cases f with
    | zero=>have h:=HM.out;injection h with _ h;cases h
    | succ f=>exact⟨f,rfl⟩
   have hY:=HM.out
   rw[Y.more]at hY
   obtain⟨p2,r2,hgp,hmo2⟩:=Y.bind_eq_ok hY
   have HMO2:=aA hmo2
   have HGL2:=aA (Y.group_len hgp)
   have HKD:=aA (fun(x:World) (h:Rd8 L w.heap.size (w.heap.size+1) px py x (t::m1))=>ziu L w.heap.size (w.heap.size+1) px py (t::m1) x h)
   have HGR:=aA (fun(x:World) (h:Rd8 L w.heap.size (w.heap.size+1) px py x (t::m1))=>zhU L w.heap.size (w.heap.size+1) px py (t::m1) p2 r2 x h hgp)
   rw[show kd (t::m1)=1 from Y.group_kind hgp]at HKD
   have hlen:0<((t::m1).length:Int):=by simp
   have HLN:Hid ((t::m1).length=m1.length+1):=aA rfl
   clear hY hgp hmo2 HM hsb hzz hrd hod hop hbw hpb hle
   have HRL:Hid ((t::m1).length=zc9 (w.heap.size+1) wr):=aA HRD.out.dlen.symm
   generalize hrr:t::m1=rst at *
   clear hrr
   go_wp2_with fail
   refine(HKD.out _ HRD.out).mono ?_;rintro _ _ ⟨rfl,rfl⟩
   go_upto_region 6 with fail
   refine Calm.region_tree (fun _=>True) (.two [0,2] 1 (.one [] 3 (.one [] 4 (.one [5] 6 (.fin [])))) 3 (.one [] 1 (.one [] 4 (.one [5] 6 (.fin []))))) (by kernel_rfl) (by kernel_rfl) (fun _ _ d _ _ h=>by cases d <;> exact h) trivial ?_
   obtain⟨x2,hx2⟩:∃x,x=wr.drew:=⟨_,rfl⟩
   rw[←hx2]
   have hgd:wr.grownBy x2 .none:=by rw[hx2];exact aJ _ _
   have hbx:Below w.heap.size w x2:=by rw[hx2];exact aB HBW.out 1
   have HSB2:=aA ((hgd.block w2.heap.size hsbl (by simp)).trans HSB.out)
   have HZZ2:=aA ((hgd.block w.heap.size hsz (by simp)).trans HZZ.out)
   have HRD2:=aA (HRD.out.row hgd)
   have HOD2:=aA (HOD.out.grown hgd (zh5.none _ _))
   have HOP2:=aA (HOP.out.grown hgd (zh5.none _ _))
   have HBW2:=aA hbx
   have HPB2:Hid (w3.heap.size≤x2.heap.size):=aA (Nat.le_trans HPB.out hgd.size)
   clear hx2 hgd hbx HSB HZZ HRD HOD HOP HBW HPB
   simp only[Calm.wpT,Calm.wpSt,Calm.pickOps,List.getElem?_toArray,List.getElem?_cons_zero,List.getElem?_cons_succ]
   repeat (go_big_quiet_step (fail))
   refine wpQuiet_nil ?_
   refine⟨?_,?_⟩
   ·intro KK hKK
    try rw[if_pos (by rfl)]
    have c1:=cell_of_row x2 _ 1 _ _ _ HSB2.out
    go_wp2_with fail
    clear c1
    refine hKK _ _ trivial (fun _=>True) (fun _ _=>trivial) trivial ?_
    repeat (go_big_quiet_step (fail))
    refine wpQuiet_nil ?_
    intro KK hKK
    try rw[if_pos (by rfl)]
    go_wp2_with fail
    refine(HGR.out _ HRD2.out).mono ?_;rintro _ x3 ⟨hg3,v3,rfl,ho3,hr3⟩
    have HSB3:=aA (zac hg3 HSB2.out (by omega))
    have HZZ3:=aA (zac hg3 HZZ2.out (by omega))
    have HRD3:=aA hr3
    have HOD3:=aA (HOD2.out.grown hg3 ⟨HRD2.out.other,by obtain⟨z,hz⟩:=HOD2.out.own;exact zaq hz (by omega)⟩)
    have HOP3:=aA (HOP2.out.grown hg3 ⟨HRD2.out.other,by obtain⟨z,hz⟩:=HOP2.out.own;exact zaq hz (by omega)⟩)
    have HBW3:=aA (HBW2.out.grown hg3 HBW2.out.size (fun k e=>by injection e with e;omega))
    have HPB3:=aA (Nat.le_trans HPB2.out hg3.size)
    have HO3:=aA (ho3.less5 HPB2.out)
    have hs23:x2.heap.size≤x3.heap.size:=hg3.size
    clear hg3 ho3 hr3
    go_wp2_with fail
    refine hKK _ _ trivial (fun _=>True) (fun _ _=>trivial) trivial ?_
    repeat (go_big_quiet_step (fail))
    refine wpQuiet_nil ?_
    intro KK hKK
    try rw[if_pos (by rfl)]
    refine zh2 (.tmp 40) (.tmp 42) _ rfl Tryz.underlying76 L w3.heap.size w3.heap.size _ v3 acc p2 rfl HOP3.out rfl HO3.out (Nat.le_refl _) (by have h1:=HLE.out;have h2:=HGL2.out;simp at h2;omega) HPB3.out ?_
    intro v4 x4 ho4 hg4
    obtain⟨zo,hown⟩:=HOP3.out.own
    have HSB4:=aA (zbN hown HSB3.out (by decide) hg4)
    have HZZ4:=aA (zbN hown HZZ3.out (by decide) hg4)
    have HRD4:=aA (HRD3.out.own hown hg4 (by omega))
    have HOD4:=aA (HOD3.out.grown hg4 ⟨zas hown (by decide),by obtain⟨z,hz⟩:=HOD3.out.own;exact zdy hz hown (by decide)⟩)
    have HBW4:=aA (HBW3.out.grown hg4 HBW3.out.size (fun k e=>by have:=(World.ownsRow.lt hown k e).1;omega))
    have HPB4:=aA (Nat.le_trans HPB3.out hg4.size)
    have hs34:x3.heap.size≤x4.heap.size:=hg4.size
    have HO4:=aA ho4
    clear ho4 hg4 hown
    obtain⟨A4',c4',hv4,_,_⟩:=HO4.out.form
    rw[List.length_append]at hv4
    subst hv4
    go_wp2_with fail
    refine hKK _ _ trivial (fun _=>True) (fun _ _=>trivial) trivial ?_
    repeat (go_big_quiet_step (fail))
    refine wpQuiet_nil ?_
    intro KK hKK
    try rw[if_pos (by rfl)]
    have c1:=cell_of_row x4 _ 1 _ _ _ HSB4.out
    have f1':=frozen_of_row x4 _ 1 _ _ HSB4.out
    go_wp2_with fail
    refine hKK _ _ trivial (fun _=>True) (fun _ _=>trivial) trivial ?_
    refine wpQuiet_nil ?_
    go_wp2_with fail
    have hst:=aD (World.grownBy.refl x4 (some w2.heap.size)) 1 (.slice A4' (acc.length+p2.length) c4')
    have HRD5:=aA (HRD4.out.far w2.heap.size 1 (.slice A4' (acc.length+p2.length) c4') (by omega))
    go_roundw
    case rel =>
     refine⟨f,acc++p2,r2,A4',c4',HMO2,by have h1:=HLE.out;have h2:=HGL2.out;simp at h2 ⊢;omega,?_,?_,HRD5.out,?_,?_,?_,?_⟩
     ·rw[List.length_append,heap_setCell_same x4 _ 1 _ _ _ HSB4.out];rfl
     ·rw[Below.heap_setCell _ _ _ _ (by simp only;omega)];exact HZZ4.out
     ·exact HOD4.out.grown hst ⟨zar HSB4.out,by obtain⟨z,hz⟩:=HOD4.out.own;exact aP hz HSB4.out (fun cur e=>by injection e with _ e;exact absurd e (by decide))⟩
     ·rw[List.length_append];exact HO4.out.grown hst ⟨zar HSB4.out,by obtain⟨z,hz⟩:=HO4.out.own;exact aP hz HSB4.out (fun cur e=>by injection e with _ e;exact absurd e (by decide))⟩
     ·exact Below.setCell HBW4.out (p:=⟨w2.heap.size,1,none⟩) (by simp only;omega) _
     ·simpa using HPB4.out
    case measure =>
     rw[HRD5.out.dlen,←HRL.out]
     have h2:=HGL2.out
     have h3:=HLN.out
     simp at h2
     omega
   ·intro KK hKK
    try rw[if_pos (by rfl)]
    go_wp2_with fail
    refine(HGR.out _ HRD2.out).mono ?_;rintro _ x3 ⟨hg3,v3,rfl,ho3,hr3⟩
    have HSB3:=aA (zac hg3 HSB2.out (by omega))
    have HZZ3:=aA (zac hg3 HZZ2.out (by omega))
    have HRD3:=aA hr3
    have HOD3:=aA (HOD2.out.grown hg3 ⟨HRD2.out.other,by obtain⟨z,hz⟩:=HOD2.out.own;exact zaq hz (by omega)⟩)
    have HOP3:=aA (HOP2.out.grown hg3 ⟨HRD2.out.other,by obtain⟨z,hz⟩:=HOP2.out.own;exact zaq hz (by omega)⟩)
    have HBW3:=aA (HBW2.out.grown hg3 HBW2.out.size (fun k e=>by injection e with e;omega))
    have HPB3:=aA (Nat.le_trans HPB2.out hg3.size)
    have HO3:=aA (ho3.less5 HPB2.out)
    have hs23:x2.heap.size≤x3.heap.size:=hg3.size
    clear hg3 ho3 hr3
    go_wp2_with fail
    refine hKK _ _ trivial (fun _=>True) (fun _ _=>trivial) trivial ?_
    repeat (go_big_quiet_step (fail))
    refine wpQuiet_nil ?_
    intro KK hKK
    try rw[if_pos (by rfl)]
    have c1:=cell_of_row x3 _ 1 _ _ _ HSB3.out
    go_wp2_with fail
    clear c1
    refine hKK _ _ trivial (fun _=>True) (fun _ _=>trivial) trivial ?_
    repeat (go_big_quiet_step (fail))
    refine wpQuiet_nil ?_
    intro KK hKK
    try rw[if_pos (by rfl)]
    refine zh2 (.tmp 40) (.tmp 42) _ rfl Tryz.underlying76 L w3.heap.size w3.heap.size _ v3 acc p2 rfl HOP3.out rfl HO3.out (Nat.le_refl _) (by have h1:=HLE.out;have h2:=HGL2.out;simp at h2;omega) HPB3.out ?_
    intro v4 x4 ho4 hg4
    obtain⟨zo,hown⟩:=HOP3.out.own
    have HSB4:=aA (zbN hown HSB3.out (by decide) hg4)
    have HZZ4:=aA (zbN hown HZZ3.out (by decide) hg4)
    have HRD4:=aA (HRD3.out.own hown hg4 (by omega))
    have HOD4:=aA (HOD3.out.grown hg4 ⟨zas hown (by decide),by obtain⟨z,hz⟩:=HOD3.out.own;exact zdy hz hown (by decide)⟩)
    have HBW4:=aA (HBW3.out.grown hg4 HBW3.out.size (fun k e=>by have:=(World.ownsRow.lt hown k e).1;omega))
    have HPB4:=aA (Nat.le_trans HPB3.out hg4.size)
    have hs34:x3.heap.size≤x4.heap.size:=hg4.size
    have HO4:=aA ho4
    clear ho4 hg4 hown
    obtain⟨A4',c4',hv4,_,_⟩:=HO4.out.form
    rw[List.length_append]at hv4
    subst hv4
    go_wp2_with fail
    refine hKK _ _ trivial (fun _=>True) (fun _ _=>trivial) trivial ?_
    repeat (go_big_quiet_step (fail))
    refine wpQuiet_nil ?_
    intro KK hKK
    try rw[if_pos (by rfl)]
    have c1:=cell_of_row x4 _ 1 _ _ _ HSB4.out
    have f1':=frozen_of_row x4 _ 1 _ _ HSB4.out
    go_wp2_with fail
    refine hKK _ _ trivial (fun _=>True) (fun _ _=>trivial) trivial ?_
    refine wpQuiet_nil ?_
    go_wp2_with fail
    have hst:=aD (World.grownBy.refl x4 (some w2.heap.size)) 1 (.slice A4' (acc.length+p2.length) c4')
    have HRD5:=aA (HRD4.out.far w2.heap.size 1 (.slice A4' (acc.length+p2.length) c4') (by omega))
    go_roundw
    case rel =>
     refine⟨f,acc++p2,r2,A4',c4',HMO2,by have h1:=HLE.out;have h2:=HGL2.out;simp at h2 ⊢;omega,?_,?_,HRD5.out,?_,?_,?_,?_⟩
     ·rw[List.length_append,heap_setCell_same x4 _ 1 _ _ _ HSB4.out];rfl
     ·rw[Below.heap_setCell _ _ _ _ (by simp only;omega)];exact HZZ4.out
     ·exact HOD4.out.grown hst ⟨zar HSB4.out,by obtain⟨z,hz⟩:=HOD4.out.own;exact aP hz HSB4.out (fun cur e=>by injection e with _ e;exact absurd e (by decide))⟩
     ·rw[List.length_append];exact HO4.out.grown hst ⟨zar HSB4.out,by obtain⟨z,hz⟩:=HO4.out.own;exact aP hz HSB4.out (fun cur e=>by injection e with _ e;exact absurd e (by decide))⟩
     ·exact Below.setCell HBW4.out (p:=⟨w2.heap.size,1,none⟩) (by simp only;omega) _
     ·simpa using HPB4.out
    case measure =>
     rw[HRD5.out.dlen,←HRL.out]
     have h2:=HGL2.out
     have h3:=HLN.out
     simp at h2
     omega
structure Sr9 (L:List Int) (xs:List Tok) (ds:List Y.Dcl) (ps:List Y.Prd) (G:Gm.Gr):Prop where
 b:K.Bytes L
 n:L.length≤2000
 t:zh7 L=.ok xs
 s:∃m t9 m2 p1 r1 f1,Y.decls (xs.length+1) [] xs=.ok ds m∧Y.take [9] m=.ok t9 m2∧Y.group [] m2=.ok p1 r1∧Y.more f1 p1 r1=.ok ps []
 z:Ez ds ps
 g:Gm.build ds ps=.ok G
theorem zi5 (A:Option Addr) (c:Nat) (L:List Int) (xs:List Tok) (ds:List Y.Dcl) (ps:List Y.Prd) (G:Gm.Gr) (w:World) (hr:RdB w w.heap.size A L) (hc:L.length≤c) (hs:Sr9 L xs ds ps G) :
  Calls Tryz.prog 43 #[.slice A L.length c] w fun e w'=>∃dv pv,e=.returned (.tuple #[.agg #[dv,pv],.complex .f64 0 0,.int .i64 0])∧bE L w' w.heap.size dv ds∧bD L w' w.heap.size pv ps∧Below w.heap.size w w':=by
 have SC:=fun a w m X Y=>show(store a (.complex .f64 X Y) m).run Tryz.prog w=stored Tryz.prog w a (.complex .f64 X Y) m from run_store _ w a _ m rfl
 have HT:=aA (fun(w1:World) (h1:Below w.heap.size w w1)=>zfN A c L xs w1 (hr.up h1) hs.b hc hs.n hs.t)
 have HB0:=aA (fun o=>((Below.refl w.heap.size w).alloc (Nat.le_refl _) o))
 obtain⟨m,t9,m2,p1,r1,f1,s1,s2,s3,s4⟩:=hs.s
 have hxs:xs.length≤4000:=by have:=(zfw L hs.b xs hs.t).count;have:=hs.n;omega
 have HOF:=aA (fun(w1:World) (A':Option Addr) (c':Nat) (h1:RdT L w1 w1.heap.size A' xs) (h2:xs.length≤c')=>of8m L A' c' (Fl.fl (Pl.pos L).1) (Fl.fl (Pl.pos L).2) xs ds p1 ps f1 m m2 r1 t9 w1 h1 h2 hxs s1 hs.z.k s2 s3 s4)
 clear hr hc hs s1 s2 s3 s4
 go_enter Tryz.func43,Tryz.ntmps43
 go_wp2_with fail
 refine(HT.out _ (HB0.out _)).mono ?_;rintro _ w2 ⟨v,rfl,ho,hb⟩
 obtain⟨A',c',rfl,hxc,_,hrd⟩:=ho.rd
 have h2:w2.heap[w.heap.size]?=some (.cells #[.slice none 0 0,.slice none 0 0] 78 (0,0)):=(hb.block w.heap.size (by simp)).trans (heap_alloc_new w _)
 have HB2:=aA ((HB0.out (.cells #[.slice none 0 0,.slice none 0 0] 78)).trans (hb.mono (HB0.out _).size))
 have HO2:=aA (HOF.out w2 A' c' hrd hxc)
 clear ho hb HT HB0 HOF hrd hxc
 go_wp2_with fail
 refine HO2.out.mono ?_;rintro _ w3 ⟨dv,pv,rfl,hod,hop,hb3⟩
 have h3:=(hb3.block w.heap.size (Array.getElem?_eq_some_iff.1 h2).1).trans h2
 have c0:=cell_of_row w3 _ 0 _ _ _ h3
 have c1:=cell_of_row w3 _ 1 _ _ _ h3
 have f0:=frozen_of_row w3 _ 0 _ _ h3
 have f1:=frozen_of_row w3 _ 1 _ _ h3
 have HB3:=aA (HB2.out.trans (hb3.mono HB2.out.size))
 have HX:=aA (zbO h3 (by decide))
 obtain⟨DA,DC,rfl,_,_⟩:=hod.form
 obtain⟨PA',PC,rfl,_,_⟩:=hop.form
 have HWD:Hid (bE L ((w3.setCell ⟨w.heap.size,0,none⟩ (.slice DA ds.length DC)).setCell ⟨w.heap.size,1,none⟩ (.slice PA' ps.length PC)) w.heap.size (.slice DA ds.length DC) ds):=aA (by
  obtain⟨zs,hz⟩:=hod.own
  exact(hod.less HB2.out.size).grown (aD (aD (World.grownBy.refl _ _) _ _) _ _) ⟨HX.out,.inr (zer hz h3 (by decide))⟩)
 have HWP:Hid (bD L ((w3.setCell ⟨w.heap.size,0,none⟩ (.slice DA ds.length DC)).setCell ⟨w.heap.size,1,none⟩ (.slice PA' ps.length PC)) w.heap.size (.slice PA' ps.length PC) ps):=aA (by
  obtain⟨zs,hz⟩:=hop.own
  exact(hop.less HB2.out.size).grown (aD (aD (World.grownBy.refl _ _) _ _) _ _) ⟨HX.out,.inr (zer hz h3 (by decide))⟩)
 clear hod hop hb3 HO2 h2 h3
 go_wp2
 refine bodyPost_ret (v:=.tuple #[.agg #[.slice DA ds.length DC,.slice PA' ps.length PC],.complex .f64 0 0,.int .i64 0]) (by simp[results,Tryz.results43,go_sem,c0,c1]) rfl ?_
 exact⟨_,_,rfl,HWD.out,HWP.out,zaQ (zaQ HB3.out _ (Nat.le_refl _)) _ (Nat.le_refl _)⟩
theorem zjm (A:Option Addr) (c:Nat) (L:List Int) (xs:List Tok) (ds:List Y.Dcl) (ps:List Y.Prd) (G:Gm.Gr) (w:World) (hr:RdB w w.heap.size A L) (hc:L.length≤c) (hs:Sr9 L xs ds ps G) :
  Calls Tryz.prog 24 #[.slice A L.length c] w fun e w'=>(∃g,e=.returned (.tuple #[g,.complex .f64 0 0,.int .i64 0])∧aT w' w'.heap.size g G∧Gm.Fit G)∧Below w.heap.size w w':=by
 have SC:=fun a w m X Y=>show(store a (.complex .f64 X Y) m).run Tryz.prog w=stored Tryz.prog w a (.complex .f64 X Y) m from run_store _ w a _ m rfl
 have hb1:Below w.heap.size w (w.alloc (.cells grC 26)):=(Below.refl w.heap.size w).alloc (Nat.le_refl _) _
 have HP:=aA (zi5 A c L xs ds ps G _ (hr.up hb1) hc hs)
 have HB1:=aA hb1
 have HG1:=aA (heap_alloc_new w (.cells grC 26))
 have HBA:=aA (fun(x:World) (A1 A2:Option Addr) (c1 c2:Nat) (h1:ziL L x x.heap.size A1 ds) (h2:ziK L x x.heap.size A2 ps)=>zjx L ds ps A1 A2 c1 c2 G x h1 h2 hs.z hs.g)
 unfold grC at HP HB1
 clear hr hc hs hb1
 go_enter Tryz.func24,Tryz.ntmps24
 go_wp2_with fail
 refine HP.out.mono ?_;rintro _ w2 ⟨dv,pv,rfl,hod,hop,hb2⟩
 obtain⟨A1,c1,rfl,hrd⟩:=zgu hod
 obtain⟨A2,c2,rfl,hrp⟩:=zf4 hop
 have hgb:=(hb2.block w.heap.size (by simp)).trans HG1.out
 have HGB:=aA hgb
 have HB2:=aA (HB1.out.trans (hb2.mono HB1.out.size))
 have hgz:=(Array.getElem?_eq_some_iff.1 hgb).1
 obtain⟨w3,hw3⟩:∃x,x=w2.alloc (.cells #[.slice A1 ds.length c1,.slice A2 ps.length c2] 78):=⟨_,rfl⟩
 have HB3:Hid (Below w.heap.size w w3):=aA (by rw[hw3];exact HB2.out.alloc HB2.out.size _)
 have hb23:Below w2.heap.size w2 w3:=by rw[hw3];exact(Below.refl _ _).alloc (Nat.le_refl _) _
 have HG3:Hid (w3.heap[w.heap.size]?=some (.cells grC 26 (0,0))):=aA ((hb23.block _ hgz).trans hgb)
 have hs3:w2.heap.size≤w3.heap.size:=hb23.size
 have HC:=aA (HBA.out w3 A1 A2 c1 c2 (fun hn=>by
   obtain⟨g,o,e,h1,h2⟩:=(hrd.keep hb23) hn
   refine⟨g,o,e,by omega,fun i hi=>?_⟩
   obtain⟨k1,A',c',k2,k3⟩:=h2 i hi
   exact⟨k1,A',c',k2,fun hn=>by obtain⟨g,o,e,q1,q2⟩:=k3 hn;exact⟨g,o,e,by omega,q2⟩⟩) (fun hn=>by
   obtain⟨g,o,e,h1,h2⟩:=(hrp.keep hb23) hn
   refine⟨g,o,e,by omega,fun i hi=>?_⟩
   obtain⟨k1,k2,⟨A',c',k3,k4⟩,k5⟩:=h2 i hi
   exact⟨k1,k2,⟨A',c',k3,fun hn=>by obtain⟨g,o,e,q1,q2⟩:=k4 hn;exact⟨g,o,e,by omega,q2⟩⟩,k5⟩))
 rw[hw3]at HC HB3 HG3
 clear hb2 hgb hod hop hrd hrp hw3 hb23 hs3 HBA
 go_wp2_with fail
 refine HC.out.mono ?_;rintro _ w4 ⟨⟨g,rfl,hgw,hfit⟩,hb4⟩
 have hgb:=(hb4.block w.heap.size (by simp;omega)).trans HG3.out
 have g0:w4.cell? ⟨w.heap.size,0,none⟩=some (.slice none 0 0):=cell_of_row w4 _ 0 _ _ _ hgb
 have g1:w4.cell? ⟨w.heap.size,1,none⟩=some (.slice none 0 0):=cell_of_row w4 _ 1 _ _ _ hgb
 have g2:w4.cell? ⟨w.heap.size,2,none⟩=some (.slice none 0 0):=cell_of_row w4 _ 2 _ _ _ hgb
 have g3:w4.cell? ⟨w.heap.size,3,none⟩=some (.int .i64 0):=cell_of_row w4 _ 3 _ _ _ hgb
 have f0:=frozen_of_row w4 _ 0 _ _ hgb
 have f1:=frozen_of_row w4 _ 1 _ _ hgb
 have f2:=frozen_of_row w4 _ 2 _ _ hgb
 have f3:=frozen_of_row w4 _ 3 _ _ hgb
 have hgz4:=(Array.getElem?_eq_some_iff.1 hgb).1
 have HB4:=aA (HB3.out.trans (hb4.mono HB3.out.size))
 obtain⟨B,N,R,cs,vT,vN,vR,rfl,h,hN⟩:=hgw
 obtain⟨⟨AT,cT,rfl⟩,⟨AN,cN,rfl⟩,⟨AR,cR,rfl⟩⟩:=zaj h
 have HGR:=aA (fun u0 u1 u2 u3=>(h.more hN).grown (aD (aD (aD (aD (World.grownBy.refl w4 (some w.heap.size)) 0 u0) 1 u1) 2 u2) 3 u3) (⟨fun g e=>by injection e with e;subst e;exact⟨_,_,hgb,by decide,by decide,by decide,.inl ⟨by decide,by decide⟩⟩⟩))
 have HFI:=aA hfit
 clear hb4 hgb h hN hfit
 go_wp2
 refine bodyPost_ret (v:=.tuple #[.agg #[.slice AT G.ts.length cT,.slice AN G.ns.length cN,.slice AR G.rs.length cR,.int .i64 G.st],.complex .f64 0 0,.int .i64 0]) (by simp[results,Tryz.results24,go_sem,g0,g1,g2,g3]) rfl ?_
 exact⟨⟨_,rfl,(HGR.out _ _ _ _).rd (by simp) G.st,HFI.out⟩,zaQ (zaQ (zaQ (zaQ HB4.out _ (Nat.le_refl _)) _ (Nat.le_refl _)) _ (Nat.le_refl _)) _ (Nat.le_refl _)⟩
def txB (s:List Int):Bool:=(s.all fun z=>decide (0≤z)&&decide (z<256))&&decide (s.length≤100)
def zjD (x:Tok):Bool:=txB x.t&&Gm.named x.t && !(x.t==[101,114,114,111,114])
def dcB (d:Y.Dcl):Bool:=(d.k==4||d.k==5)&&(d.ns.all fun x=>txB x.t&&Gm.named x.t)&&decide (d.ns.length≤1000)
def pdB (p:Y.Prd):Bool:=txB p.l.t&&T.isName p.l.t&&(p.r.all zjD)&&(match p.p with|none=>true|some x=>zjD x)&&decide (p.r.length≤1000)
def ezB (ds:List Y.Dcl) (ps:List Y.Prd):Bool:=ds.all dcB&&ps.all pdB&&decide (ds.length≤1000)&&decide (ps.length≤1000)&&decide (0<ps.length)
theorem zfu {s:List Int} (h:txB s=true):K.Tx s:=by
 unfold txB at h
 rw[Bool.and_eq_true,decide_eq_true_eq]at h
 exact⟨zao _ h.1,by omega⟩
theorem zfY {x:Tok} (h:zjD x=true):zjZ x:=by
 unfold zjD at h
 simp only[Bool.and_eq_true]at h
 exact⟨zfu h.1.1,h.1.2,by simpa using h.2⟩
theorem zjp {ds:List Y.Dcl} {ps:List Y.Prd} (h:ezB ds ps=true):Ez ds ps:=by
 unfold ezB at h
 simp only[Bool.and_eq_true,decide_eq_true_eq,List.all_eq_true]at h
 obtain⟨⟨⟨⟨h1,h2⟩,h3⟩,h4⟩,h5⟩:=h
 refine⟨fun d hd=>?_,fun d hd=>?_,fun p hp=>?_,fun p hp=>?_,h3,h4,h5⟩
 ·have:=h1 d hd
  unfold dcB at this
  simp only[Bool.and_eq_true,Bool.or_eq_true,beq_iff_eq]at this
  exact this.1.1
 ·have:=h1 d hd
  unfold dcB at this
  simp only[Bool.and_eq_true,List.all_eq_true,decide_eq_true_eq]at this
  exact⟨fun x hx=>⟨zfu (this.1.2 x hx).1,(this.1.2 x hx).2⟩,by omega⟩
 ·have:=h2 p hp
  unfold pdB at this
  simp only[Bool.and_eq_true]at this
  exact⟨zfu this.1.1.1.1,this.1.1.1.2⟩
 ·have:=h2 p hp
  unfold pdB at this
  simp only[Bool.and_eq_true,List.all_eq_true,decide_eq_true_eq]at this
  refine⟨fun x hx=>zfY (this.1.1.2 x hx),fun x hx=>?_,this.2⟩
  have h6:=this.1.2
  rw[hx]at h6
  exact zfY h6
def gr9 (L:List Int):Option Gm.Gr :=
 match zh7 L with
 | .ok xs=>match Y.decls (xs.length+1) [] xs with
  | .ok ds m=>match Y.take [9] m with
   | .ok _ m2=>match Y.group [] m2 with
    | .ok p1 r1=>match Y.more (r1.length+1) p1 r1 with
     | .ok ps []=>match ezB ds ps,Gm.build ds ps with
      | true,.ok G=>some G
      | _,_=>none
     | _=>none
    | _=>none
   | _=>none
  | _=>none
 | _=>none
theorem zjn {L:List Int} {G:Gm.Gr} (hb:(L.all fun z=>decide (0≤z)&&decide (z<256))=true) (hn:L.length≤2000) (h:gr9 L=some G):∃xs ds ps,Sr9 L xs ds ps G:=by
 unfold gr9 at h
 split at h
 ·rename_i xs h1
  split at h
  ·rename_i ds m h2
   split at h
   ·rename_i t9 m2 h3
    split at h
    ·rename_i p1 r1 h4
     split at h
     ·rename_i ps h7
      split at h
      ·rename_i h5 h6
       injection h with h
       subst h
       exact⟨xs,ds,ps,zao _ hb,hn,h1,⟨m,t9,m2,p1,r1,_,h2,h3,h4,h7⟩,zjp h5,h6⟩
      ·cases h
     ·cases h
    ·cases h
   ·cases h
  ·cases h
 ·cases h
theorem zea (L:List Int) (G:Gm.Gr) (hb:(L.all fun z=>decide (0≤z)&&decide (z<256))=true) (hl:L.length≤2000) (hg:gr9 L=some G) (w:World) (n:Nat) (hw:n=w.heap.size) :
  Calls Tryz.prog 24 #[.slice (some ⟨n,0,none⟩) L.length L.length] (w.alloc (zbE L)) fun e w'=>(∃g,e=.returned (.tuple #[g,.complex .f64 0 0,.int .i64 0])∧aT w' w'.heap.size g G∧Gm.Fit G)∧Below w.heap.size w w':=by
 subst hw
 obtain⟨xs,ds,ps,hs⟩:=zjn hb hl hg
 obtain⟨r1,r2⟩:=litM w L
 exact(zjm _ L.length L xs ds ps G _ r1 (Nat.le_refl _) hs).mono fun e w' h=>⟨h.1,r2.trans (h.2.mono r2.size)⟩
def zjq:List Int:=[37,37,32,115,32,58,32,39,97,39,32,115,32,124,32,59]
def a7:Gm.Gr:=⟨[⟨[39,97,39],0,0⟩],[[115]],[⟨0,[0,-1],0⟩,⟨0,[],-1⟩],0⟩
theorem zjS:gr9 zjq=some a7:=by kernel_rfl
theorem zbr:Gm.right a7=true:=by decide +kernel
theorem zij:Gm.gn true a7.rs a7.ns.length=[true]:=by
 rw[←Gm.grow_gn (Gm.right_ok.1 zbr).lin];decide +kernel
theorem zjI:Gm.rc a7=[true]:=by
 have h:=Gm.right_ok.1 zbr
 rw[←Gm.reach_rc h.lin h.sin h.s0 h.s1,zij];decide +kernel
theorem zi1:Gm.rdE a7=0:=Gm.rdE_ok zbr (by
 have hok:=Gm.right_ok.1 zbr
 have h0:=hok.s0
 have h1:=hok.s1
 have e:Gm.tr (Gm.Gn true a7.rs a7.st)=(Gm.gn true a7.rs a7.ns.length).getD a7.st.toNat false:=by
  rw[Gm.gn_at _ _ _ _ (by omega),Int.toNat_of_nonneg h0]
 rw[e,zij];decide)
theorem zjF {x:Gm.Rl} (hx:x∈a7.rs):Gm.use a7 x=Gm.rcB [true] [true] x:=by
 rw[←Gm.use_rcB (Gm.right_ok.1 zbr) hx,zij,zjI]
theorem zjd:Gm.krs a7=[⟨0,[0,-1],0⟩,⟨0,[],-1⟩]:=by
 have e:Gm.krs a7=a7.rs.filter (Gm.rcB [true] [true]):=List.filter_congr fun x hx=>zjF hx
 exact e.trans (by kernel_rfl)
theorem zi6:Gm.olds a7=[0]:=by unfold Gm.olds;rw[zjd];decide +kernel
theorem zjH:Gm.reduce a7=a7:=by unfold Gm.reduce;rw[zjd,zi6];rfl
theorem zjf:Gm.isB a7=true:=by
 unfold Gm.isB Gm.rdG
 rw[if_pos zi1,zjH,zi1,Gm.same_self];rfl
def ks15:List (List Au.It):=[[(-1,0)],[(0,1)],[(-1,1)],[(0,2)]]
def es15:List (List (Int×Int)):=[[(0,1),(-1,2)],[(0,1),(-1,3)],[],[]]
def zib:List StT:=[([(-1,0)],[(0,1),(-1,2)]),([(0,1)],[(0,1),(-1,3)]),([(-1,1)],[]),([(0,2)],[])]
theorem zjz:Au.bld a7=some (ks15,es15):=Au.bld_c (by decide +kernel)
theorem zjy:Au.bldE a7=0:=(Au.bld_ok zjf zjz).1
theorem zhZ:Au.bldS a7=zib:=(Au.bld_ok zjf zjz).2
theorem zjv:Au.closL a7 [((-1:Int),(0:Int)),(7,0)]=[(-1,0),(0,0),(1,0)]:=by
 unfold Au.closL
 rw[if_pos zbr,show [((-1:Int),(0:Int)),(7,0)].filter (Au.isI a7)=[(-1,0)] by decide +kernel]
 exact(Au.clo_c (by decide +kernel) (by decide +kernel)).trans (by decide +kernel)
theorem zjE:Au.wlkS zib 0 [0,0,-1]=some 3:=by decide +kernel
theorem ziT:Au.wlkS zib 0 [1]=none:=by decide +kernel
theorem zi8:Au.nextO a7 (0,1)=some (-1):=by decide +kernel
theorem zjR:Au.hasB a7 (1,0)=true:=by decide +kernel
theorem zjl:Au.hasB a7 (1,1)=false:=by decide +kernel
theorem zi0:Gm.right Gm.gr0=false:=by decide +kernel
theorem isB0:Gm.isB Gm.gr0=false:=by
 cases h:Gm.isB Gm.gr0
 ·rfl
 ·have:=Gm.isB_right h
  rw[zi0]at this;cases this
theorem zjW:Au.bldE Gm.gr0=1:=(Au.bld_no isB0).1
theorem zjV:Au.bldS Gm.gr0=[]:=(Au.bld_no isB0).2
theorem zgA (g:Value) (B:Nat) (x:World) (hg:aT x B g a7) (hf:Gm.Fit a7) (hB:B≤x.heap.size) :
  Calls Tryz.prog 17 #[g] x fun e w'=>∃A c,e=.returned (.tuple #[.slice A 4 c,.int .i64 0])∧4≤c∧c≤9223372036854775807∧bI w' w'.heap.size A zib∧Below x.heap.size x w' :=
 (zaR g a7 B x hg hf hB).mono fun e w' k=>by
  obtain⟨A,c,k1,k2,k3,k4,k5⟩:=k
  rw[zjy,zhZ]at k1
  rw[zhZ]at k2 k4
  exact⟨A,c,k1,k2,k3,k4,k5⟩
theorem zgn:Gm.Fit Gm.gr0:=⟨by simp[Gm.gr0],by simp[Gm.gr0],by simp[Gm.gr0],by unfold Gm.In;simp[Gm.gr0]⟩
theorem zhA (x:World):Calls Tryz.prog 17 #[.agg #[.slice none 0 0,.slice none 0 0,.slice none 0 0,.int .i64 0]] x fun e w'=>∃A c,e=.returned (.tuple #[.slice A 0 c,.int .i64 1])∧Below x.heap.size x w' :=
 (zaR _ Gm.gr0 x.heap.size x (zhV x _) zgn (Nat.le_refl _)).mono fun e w' k=>by
  obtain⟨A,c,k1,k2,k3,k4,k5⟩:=k
  rw[zjW,zjV]at k1
  exact⟨A,c,k1,k5⟩
theorem zjM (w:World):RdQ 2 prF (w.alloc (.cells #[.int .i64 (-1),.int .i64 0,.int .i64 7,.int .i64 0] 33)) (w.heap.size+1) (some ⟨w.heap.size,0,none⟩) [(-1,0),(7,0)]:=fun _=>by
 have h:=heap_alloc_new w (.cells #[.int .i64 (-1),.int .i64 0,.int .i64 7,.int .i64 0] 33)
 refine⟨w.heap.size,0,rfl,by omega,fun i hi j u hu=>?_⟩
 rw[cell_of_row _ w.heap.size _ _ _ _ h]
 match i,hi,j,hu with
 | 0,_,0,hu=>exact hu
 | 0,_,1,hu=>exact hu
 | 1,_,0,hu=>exact hu
 | 1,_,1,hu=>exact hu
 | 0,_,j+2,hu=>simp[prF]at hu
 | 1,_,j+2,hu=>simp[prF]at hu
theorem zhy (g:Value) (B:Nat) (x:World) (hg:aT x B g a7) (hf:Gm.Fit a7) (hB:B≤x.heap.size) :
  Calls Tryz.prog 15 #[g,.slice (some ⟨x.heap.size,0,none⟩) 2 2] (x.alloc (.cells #[.int .i64 (-1),.int .i64 0,.int .i64 7,.int .i64 0] 33)) fun e w'=>∃q c,e=.returned (.slice (some ⟨q,0,none⟩) 3 c)∧w'.cell? ⟨q,0,none⟩=some (.int .i64 (-1))∧q<w'.heap.size∧Below x.heap.size x w':=by
 have hs:(x.alloc (.cells #[.int .i64 (-1),.int .i64 0,.int .i64 7,.int .i64 0] 33)).heap.size=x.heap.size+1:=by simp
 have hb:Below x.heap.size x (x.alloc (.cells #[.int .i64 (-1),.int .i64 0,.int .i64 7,.int .i64 0] 33)):=(Below.refl _ _).alloc (Nat.le_refl _) _
 refine(zck g a7 B [(-1,0),(7,0)] (some ⟨x.heap.size,0,none⟩) 2 (x.heap.size+1) _ (hg.below hb hB) hf (Nat.le_trans hB hb.size) (zjM x) (by rw[hs];exact Nat.le_refl _) (by unfold Gm.In;simp) (by decide)).mono fun e w' k=>?_
 obtain⟨v',rfl,ho,hb2⟩:=k
 rw[zjv]at ho
 obtain⟨q,c,rfl,_,_,_⟩:=aI.addr ho (by decide)
 exact⟨q,c,rfl,aI.cellAt ho aG 0 0 (by decide) _ rfl,aI.lt ho,hb.trans (hb2.mono (by rw[hs];omega))⟩
theorem zeh (A:Option Addr) (c B:Nat) (sy:List Int) (o:Option Int) (x:World) (hr:bI x B A zib) (hB:B≤x.heap.size) (hl:sy.length≤100000) (ho:Au.wlkS zib 0 sy=o) :
  Calls Tryz.prog 21 #[.slice A 4 c,.int .i64 0,.slice (some ⟨x.heap.size,0,none⟩) sy.length sy.length] (x.alloc (zbF sy)) fun e w'=>e=.returned (.tuple #[.int .i64 (o.getD 0),.bool o.isSome])∧Below x.heap.size x w':=by
 have hb:Below x.heap.size x (x.alloc (zbF sy)):=(Below.refl _ _).alloc (Nat.le_refl _) _
 refine(zdI zib A c B 0 sy (some ⟨x.heap.size,0,none⟩) sy.length (x.alloc (zbF sy)).heap.size _ (hr.below hb hB) (Nat.le_trans hB hb.size) (by decide) (zis x sy).1 (Nat.le_refl _) hl).mono fun e w' k=>?_
 rw[ho]at k
 exact⟨k.1,hb.trans (k.2.mono hb.size)⟩
theorem zaD (w:World):Calls Tryz.prog 8 #[] w fun e w'=>e=.returned (.bool true)∧Below w.heap.size w w':=by
 have T1:=aA (zea zjq a7 (by decide) (by decide) zjS w w.heap.size rfl)
 have U1:=(show(convert 58 58 (.slice (some ⟨w.heap.size,0,none⟩) 16 16)).run Tryz.prog (w.alloc (.cells #[.int .u8 37,.int .u8 37,.int .u8 32,.int .u8 115,.int .u8 32,.int .u8 58,.int .u8 32,.int .u8 39,.int .u8 97,.int .u8 39,.int .u8 32,.int .u8 115,.int .u8 32,.int .u8 124,.int .u8 32,.int .u8 59] 5))=.ok (.slice (some ⟨w.heap.size,0,none⟩) 16 16) (w.alloc (zbE zjq)) from zhi w zjq 16 16)
 have hl1:zjq.length=16:=rfl
 rw[hl1]at T1
 clear hl1
 have hs1:∀(x:World) (o:Obj),(x.alloc o).heap.size=x.heap.size+1:=fun x o=>by simp
 go_enter Tryz.func8,Tryz.ntmps8
 go_wp2_with fail
 refine T1.out.mono ?_;rintro _ w1 ⟨⟨g,rfl,hg1,hft1⟩,hb1⟩
 have HBU:=aA (fun(x:World) (h:Below w1.heap.size w1 x)=>zgA g w1.heap.size x (hg1.below h (Nat.le_refl _)) hft1 h.size)
 have HB0:=aA (fun(x:World)=>zhA x)
 have HCL:=aA (fun(x:World) (h:Below w1.heap.size w1 x)=>zhy g w1.heap.size x (hg1.below h (Nat.le_refl _)) hft1 h.size)
 have HNX:=aA (fun(x:World) (h:Below w1.heap.size w1 x)=>(show Calls Tryz.prog 10 #[g,.agg #[.int .i64 0,.int .i64 1]] x (fun e w'=>e=.returned (.tuple #[.int .i64 (-1),.bool true])∧Below x.heap.size x w') from(zdK g a7 w1.heap.size (0,1) x (hg1.below h (Nat.le_refl _)) hft1 h.size).mono fun e w' k=>by rw[zi8]at k;exact k))
 have HH1:=aA (fun(x:World) (h:Below w1.heap.size w1 x)=>(show Calls Tryz.prog 12 #[g,.agg #[.int .i64 1,.int .i64 0]] x (fun e w'=>e=.returned (.bool true)∧Below x.heap.size x w') from(zdj g a7 w1.heap.size (1,0) x (hg1.below h (Nat.le_refl _)) hft1 h.size).mono fun e w' k=>by rw[zjR]at k;exact k))
 have HH2:=aA (fun(x:World) (h:Below w1.heap.size w1 x)=>(show Calls Tryz.prog 12 #[g,.agg #[.int .i64 1,.int .i64 1]] x (fun e w'=>e=.returned (.bool false)∧Below x.heap.size x w') from(zdj g a7 w1.heap.size (1,1) x (hg1.below h (Nat.le_refl _)) hft1 h.size).mono fun e w' k=>by rw[zjl]at k;exact k))
 obtain⟨AT,cT,AN,cN,AR,cR,rfl,_,_,_,_,_,_⟩:=hg1
 have HQ1:=aA (One.start w1 #[.slice AT a7.ts.length cT,.slice AN a7.ns.length cN,.slice AR a7.rs.length cR,.int .i64 a7.st])
 have HY1:=aA (fun(x:World) (h:One w1 #[.slice AT a7.ts.length cT,.slice AN a7.ns.length cN,.slice AR a7.rs.length cR,.int .i64 a7.st] x)=>And.intro (h.c 0 _ rfl) (And.intro (h.c 1 _ rfl) (And.intro (h.c 2 _ rfl) (h.c 3 _ rfl))))
 have HBF:=aA (fun(x:World) (h:One w1 #[.slice AT a7.ts.length cT,.slice AN a7.ns.length cN,.slice AR a7.rs.length cR,.int .i64 a7.st] x)=>hb1.trans (h.below.mono hb1.size))
 clear hb1 U1 T1 hft1
 obtain⟨wa,hwa⟩:∃y,y=w1.alloc (.cells #[.slice AT a7.ts.length cT,.slice AN a7.ns.length cN,.slice AR a7.rs.length cR,.int .i64 a7.st] 26):=⟨_,rfl⟩
 rw[←hwa]at HQ1
 go_upto_region 2 with fail
 rw[←hwa]
 clear hwa
 obtain⟨x0,x1,x2,x3⟩:=HY1.out wa HQ1.out
 have l1:w1.heap.size<wa.heap.size:=HQ1.out.size
 go_wp2_with fail
 refine(HBU.out wa HQ1.out.below).mono ?_;rintro _ w2 ⟨A2,c2,rfl,hc2,hm2,hr2,hb2⟩
 have HQ2:=aA (HQ1.out.on hb2)
 have HR2:=aA hr2
 clear x0 x1 x2 x3 l1 hr2 hb2 HBU
 go_wp2_with fail
 refine(HB0.out w2).mono ?_;rintro _ w3 ⟨A3,c3,rfl,hb3⟩
 have HQ3:=aA (HQ2.out.on hb3)
 have HR3:=aA (HR2.out.below hb3 (Nat.le_refl _))
 have HS3:=aA hb3.size
 clear hb3 HB0
 obtain⟨x0,x1,x2,x3⟩:=HY1.out w3 HQ3.out
 have l1:w1.heap.size<w3.heap.size:=HQ3.out.size
 have HCX:=aA (HCL.out w3 HQ3.out.below)
 go_wp2_with fail
 refine HCX.out.mono ?_;rintro _ w4 ⟨q4,c4,rfl,hc4,hq4,hb4⟩
 have HQ4:=aA (HQ3.out.on hb4)
 have HR4:=aA (HR3.out.below hb4 HS3.out)
 have HS4:=aA (Nat.le_trans HS3.out hb4.size)
 have HC4:=aA (fun(x:World) (h:Below w4.heap.size w4 x)=>(h.cell (p:=⟨q4,0,none⟩) hq4).trans hc4)
 have HL4:=aA (fun(x:World) (h:Below w4.heap.size w4 x)=>Nat.lt_of_lt_of_le hq4 h.size)
 clear x0 x1 x2 x3 l1 hb4 hc4 hq4 HCX HCL
 have HWX:=aA (show Calls Tryz.prog 21 #[.slice A2 4 c2,.int .i64 0,.slice (some ⟨w4.heap.size,0,none⟩) 3 3] (w4.alloc (.cells #[.int .i64 0,.int .i64 0,.int .i64 (-1)] 3)) (fun e w'=>e=.returned (.tuple #[.int .i64 3,.bool true])∧Below w4.heap.size w4 w') from zeh A2 c2 w2.heap.size [0,0,-1] (some 3) w4 HR4.out HS4.out (by decide) zjE)
 go_wp2_with fail
 refine HWX.out.mono ?_;rintro _ w5 ⟨rfl,hb5⟩
 have HB5:=aA hb5
 have HQ5:=aA (HQ4.out.on hb5)
 have HR5:=aA (HR4.out.below hb5 HS4.out)
 have HS5:=aA (Nat.le_trans HS4.out hb5.size)
 clear hb5 HWX
 have HWX:=aA (show Calls Tryz.prog 21 #[.slice A2 4 c2,.int .i64 0,.slice (some ⟨w5.heap.size,0,none⟩) 1 1] (w5.alloc (.cells #[.int .i64 1] 3)) (fun e w'=>e=.returned (.tuple #[.int .i64 0,.bool false])∧Below w5.heap.size w5 w') from zeh A2 c2 w2.heap.size [1] none w5 HR5.out HS5.out (by decide) ziT)
 go_wp2_with fail
 refine HWX.out.mono ?_;rintro _ w6 ⟨rfl,hb6⟩
 have HB6:=aA (HB5.out.trans (hb6.mono HB5.out.size))
 have HQ6:=aA (HQ5.out.on hb6)
 have HR6:=aA (HR5.out.below hb6 HS5.out)
 have HS6:=aA (Nat.le_trans HS5.out hb6.size)
 clear hb6 HWX
 obtain⟨x0,x1,x2,x3⟩:=HY1.out w6 HQ6.out
 have l1:w1.heap.size<w6.heap.size:=HQ6.out.size
 go_wp2_with fail
 refine(HNX.out w6 HQ6.out.below).mono ?_;rintro _ w7 ⟨rfl,hb7⟩
 have HB7:=aA (HB6.out.trans (hb7.mono HB6.out.size))
 have HQ7:=aA (HQ6.out.on hb7)
 have HR7:=aA (HR6.out.below hb7 HS6.out)
 have HS7:=aA (Nat.le_trans HS6.out hb7.size)
 clear x0 x1 x2 x3 l1 hb7 HNX
 obtain⟨x0,x1,x2,x3⟩:=HY1.out w7 HQ7.out
 have l1:w1.heap.size<w7.heap.size:=HQ7.out.size
 obtain⟨gA,oA,rfl,hgA,hcA⟩:=HR7.out (by decide)
 obtain⟨_,Ae,ce,k1,_,_,_⟩:=hcA 1 (by decide)
 have k1:w7.cell? ⟨gA,oA+2+1,none⟩=some (.slice Ae 2 ce):=k1
 have l2:gA<w7.heap.size:=Nat.lt_of_lt_of_le hgA HS7.out
 have k2:=HC4.out w7 HB7.out
 have l3:=HL4.out w7 HB7.out
 clear hcA hgA
 go_wp2_with fail
 refine(HH1.out w7 HQ7.out.below).mono ?_;rintro _ w8 ⟨rfl,hb8⟩
 have HQ8:=aA (HQ7.out.on hb8)
 clear x0 x1 x2 x3 l1 hb8 HH1 k1 l2 k2 l3
 obtain⟨x0,x1,x2,x3⟩:=HY1.out w8 HQ8.out
 have l1:w1.heap.size<w8.heap.size:=HQ8.out.size
 go_wp2_with fail
 refine(HH2.out w8 HQ8.out.below).mono ?_;rintro _ w9 ⟨rfl,hb9⟩
 have HQ9:=aA (HQ8.out.on hb9)
 clear x0 x1 x2 x3 l1 hb9 HH2
 go_wp2
 go_ret
 exact⟨rfl,HBF.out _ HQ9.out⟩
end Go.Proofs.YtabmfpgpkbndeaaGreat
namespace Go.Proofs.YtabmfpgpkbndeaaGreat.RowKit
open Go.ChangeShapes Go.WideShapes Go.ChangeAt Go.RowKit
theorem own:ownKnob Tryz.prog.godebug=none:=by kernel_rfl
theorem laidOut:laidOutB Tryz.prog=true:=by kernel_rfl
end Go.Proofs.YtabmfpgpkbndeaaGreat.RowKit
