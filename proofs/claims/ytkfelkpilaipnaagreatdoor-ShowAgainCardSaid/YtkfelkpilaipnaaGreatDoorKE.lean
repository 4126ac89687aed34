/- Part of the proofs over this program: YaccSource, YaccOf, ScanL, YaccParse, Ref7, YaccList. -/
import Derived.Defers
import Derived.Recover
import Derived.Test.YtkfelkpilaipnaaGreatDoorKC
namespace Go.Proofs.YtkfelkpilaipnaaGreatDoor
set_option maxRecDepth 100000
set_option maxHeartbeats 40000000
open Go.RowKit
namespace Y
theorem decl_len {ts r:List Tok} {d:Dcl} (h:decl ts=.ok d r):r.length<ts.length:=by
 unfold decl at h
 obtain⟨t,m,h1,h2⟩:=bind_eq_ok h
 have e1:=congrArg List.length (take_ok h1).1
 simp at e1
 split at h2
 ·obtain⟨u,m2,h3,h4⟩:=bind_eq_ok h2
  injection h4 with _ h5
  subst h5
  have e2:=congrArg List.length (take_ok h3).1
  simp at e2
  omega
 ·obtain⟨u,m2,h3,h4⟩:=bind_eq_ok h2
  injection h4 with _ h5
  subst h5
  have e2:=congrArg List.length (take_ok h3).1
  have e3:=zdI isRef m2
  simp at e2
  omega
theorem zf1 (left:Tok):∀(f:Nat) (acc:List Prd) (ts:List Tok) (ps:List Prd) (r:List Tok),alts f left acc ts=.ok ps r→ps.length+r.length≤acc.length+ts.length
 | 0,acc,ts,ps,r,h=>by injection h with h1 h2;subst h1 h2;exact Nat.le_refl _
 | f+1,acc,ts,ps,r,h=>by
  rw[alts]at h
  obtain⟨p,m,h1,h2⟩:=bind_eq_ok h
  obtain⟨t,m2,h3,h4⟩:=bind_eq_ok h2
  have e1:=zdt h1
  have e2:=congrArg List.length (take_ok h3).1
  simp at e2
  split at h4
  ·have:=zf1 left f _ _ _ _ h4
   simp at this
   omega
  ·injection h4 with h5 h6
   subst h5 h6
   simp
   omega
theorem zeK (left:Tok):∀(f:Nat) (acc:List Prd) (ts:List Tok) (ps:List Prd) (r:List Tok),alts f left acc ts=.ok ps r→r.length≤ts.length
 | 0,acc,ts,ps,r,h=>by injection h with h1 h2;subst h2;exact Nat.le_refl _
 | f+1,acc,ts,ps,r,h=>by
  rw[alts]at h
  obtain⟨p,m,h1,h2⟩:=bind_eq_ok h
  obtain⟨t,m2,h3,h4⟩:=bind_eq_ok h2
  have e1:=zdt h1
  have e2:=congrArg List.length (take_ok h3).1
  simp at e2
  split at h4
  ·have:=zeK left f _ _ _ _ h4
   omega
  ·injection h4 with h5 h6
   subst h6
   omega
theorem group_rest {acc ps:List Prd} {ts r:List Tok} (h:group acc ts=.ok ps r):r.length<ts.length:=by
 unfold group at h
 obtain⟨t,m,h1,h2⟩:=bind_eq_ok h
 obtain⟨u,m2,h3,h4⟩:=bind_eq_ok h2
 have e1:=congrArg List.length (take_ok h1).1
 have e2:=congrArg List.length (take_ok h3).1
 have e3:=zeK _ _ _ _ _ _ h4
 simp at e1 e2
 omega
theorem group_len {acc ps:List Prd} {ts r:List Tok} (h:group acc ts=.ok ps r):ps.length+r.length<acc.length+ts.length:=by
 unfold group at h
 obtain⟨t,m,h1,h2⟩:=bind_eq_ok h
 obtain⟨u,m2,h3,h4⟩:=bind_eq_ok h2
 have e1:=congrArg List.length (take_ok h1).1
 have e2:=congrArg List.length (take_ok h3).1
 have e3:=zf1 _ _ _ _ _ _ h4
 simp at e1 e2
 omega
end Y
def bW (w:World) (n:Nat):World:={w with heap:=w.heap.extract 0 n}
theorem zaa (w:World) (n:Nat) (h:n≤w.heap.size):(bW w n).heap.size=n:=by simp[bW];omega
theorem zau (w:World) (n k:Nat) (h:k<n):(bW w n).heap[k]?=w.heap[k]?:=by
 unfold bW
 simp only
 rw[Array.getElem?_extract]
 simp
 intro h2
 omega
theorem zbK (w:World) (n:Nat) (h:n≤w.heap.size) (row:Option Nat):(bW w n).grownBy w row :=
 ⟨rfl,rfl,rfl,by rw[zaa w n h];exact h,fun k hk _=>by rw[zaa w n h]at hk;exact(zau w n k hk).symm⟩
theorem zin {w w':World} {n:Nat} {row:Option Nat} (hn:n≤w.heap.size) (h:(bW w n).grownBy w' row):(bW w n).grownBy (bW w' n) row:=by
 have hs:=h.size
 rw[zaa w n hn]at hs
 refine⟨h.os,h.tape,h.output,by rw[zaa w n hn,zaa w' n hs];exact Nat.le_refl _,fun k hk hne=>?_⟩
 have hk':=hk
 rw[zaa w n hn]at hk'
 rw[zau w' n k hk']
 exact h.block k hk hne
theorem zeF {w w':World} {n:Nat} {row:Option Nat} (hn:n≤w.heap.size) (h:w.grownBy w' row):(bW w n).grownBy (bW w' n) row:=by
 have hs:=Nat.le_trans hn h.size
 refine⟨h.os,h.tape,h.output,by rw[zaa w n hn,zaa w' n hs];exact Nat.le_refl _,fun k hk hne=>?_⟩
 rw[zaa w n hn]at hk
 rw[zau w' n k hk,zau w n k hk]
 exact h.block k (by omega) hne
theorem zjt (w:World) (n g i:Nat) (u:Value) (hn:n≤w.heap.size):(bW w n).grownBy (bW (w.setCell ⟨g,i,none⟩ u) n) (some g):=zeF hn (aD (World.grownBy.refl _ _) i u)
theorem zeG {w0 w:World} {n:Nat} {row:Option Nat} (h:w0.grownBy w row) (h1:w0.heap.size≤n) (h2:n≤w.heap.size):w0.grownBy (bW w n) row :=
 ⟨h.os,h.tape,h.output,by rw[zaa w n h2];exact h1,fun k hk hne=>by rw[zau w n k (by omega)];exact h.block k hk hne⟩
theorem Rdr.cut {L:List Int} {B R px py n:Nat} {w:World} {ts:List Tok} (h:Rdr L B R px py w ts) (hn:R<n):Rdr L B R px py (bW w n) ts:=by
 obtain⟨A,c,hh,h1,h2,h3,h4⟩:=h
 exact⟨A,c,(zau w n R hn).trans hh,h1,h2,h3.keep (fun g o hg=>World.cell?_of_block (zau w n g (by omega))),h4⟩
theorem zbl {w:World} {base:Nat} {v:Value} {n size g:Nat} {e t:TypeId} {xs:List Value} {cs:Array Value} (h:w.ownsRow base e size v n xs) (hb:w.heap[g]?=some (.cells cs t (0,0))) (he:e≠t):v.ownBlock≠some g:=by
 intro hk
 rcases h.2 with⟨rfl,_⟩|⟨g',cap,cur',rfl,_,hg,_⟩
 ·cases hk
 ·injection hk with hk
  have hk':g'=g:=hk
  subst hk'
  rw[hg]at hb
  injection hb with e1
  injection e1 with _ e2
  exact he e2
theorem zfH {w w':World} {base:Nat} {v:Value} {n size g:Nat} {e t:TypeId} {xs:List Value} {cs:Array Value} (h:w.ownsRow base e size v n xs) (hb:w.heap[g]?=some (.cells cs t (0,0))) (he:e≠t) (hg:w.grownBy w' v.ownBlock):w'.heap[g]?=some (.cells cs t (0,0)) :=
 (hg.block g (Array.getElem?_eq_some_iff.1 hb).1 (fun e'=>zbl h hb he e'.symm)).trans hb
theorem zcI {w:World} {o:Oper} {a:Act} {K:Act→World→Prop} {Q:Exit→Act→World→Prop}
  (s x:Operand) (t:TypeId) (ho:o.op=.call {callee:=.builtin .append,args:=#[s,x],argTypes:=#[t,t]}) (ht:Tryz.prog.underlying t=some (.slice 131))
  (L:List Int) (base:Nat) (v:Value) (ds:List Y.Dcl) (hs:a.eval s=v) (hown:bI L w base v ds) (g c:Nat) (d:Y.Dcl) (A:Option Addr) (dc:Nat) (hx:a.eval x=.slice (some ⟨g,0,none⟩) 1 c) (hz:∀j u,(zao d A dc)[j]?=some u→w.cell? ⟨g,j,none⟩=some u) (hr:RdR L w base A d.ns)
  (hlen:ds.length≤1000000) (hbase:base≤w.heap.size)
  (hK:∀v' w',bI L w' base v' (ds++[d])→w.grownBy w' v.ownBlock→K (a.put o.dst v') w') :
  o.wp Tryz.prog a w K Q:=by
 obtain⟨i,hi,hz0,hz1,hz2⟩:=info_parts zlJ
 obtain⟨qs,hq1,hq2,hq3⟩:=hown
 refine wp_append_own w s x t ho base 131 i _ 2 32 ht hi hz0 hz1 hz2 rfl (by decide) v ds.length (zlj qs) hs hq2 ⟨g,0,none⟩ 1 c (zao d A dc) hx rfl ?_ (fun u hu=>by simp[zao]at hu;rcases hu with rfl|rfl <;> rfl) (by unfold maxLen;omega) (by omega) hbase fun v' w' h1 h2 _=>hK v' w' ?_ h2
 ·intro j u hj
  rw[zdP,Nat.zero_add]
  exact hz j u hj
 ·have ho:=zaA hq2 (by decide)
  refine⟨qs++[(d,A,dc)],by rw[List.map_append,hq1];rfl,?_,fun q hq=>?_⟩
  ·rw[List.length_append]
   unfold zlj
   rw[List.flatMap_append,List.flatMap_singleton]
   exact h1
  ·rcases List.mem_append.1 hq with h|h
   ·exact(hq3 q h).grown h2 ho
   ·rw[List.mem_singleton]at h
    subst h
    exact hr.grown h2 ho
def VSrc (L:List Int) (base:Nat) (s:List Y.Dcl×List Y.Prd) (v:Value) (w:World):Prop:=∃dv pv,v=.agg #[dv,pv]∧bI L w base dv s.1∧bG L w base pv s.2
def Blk (w0:World) (dv pv:Value) (w:World):Prop:=w.heap[w0.heap.size]?=some (.cells #[.slice none 0 0,.slice none 0 0] 60 (0,0))∧w.heap[w0.heap.size+1]?=some (.cells #[dv,pv] 60 (0,0))
theorem Blk.grown {w0 w w':World} {dv pv:Value} {R:Nat} (h:Blk w0 dv pv w) (hg:w.grownBy w' (some R)) (hR:R<w0.heap.size):Blk w0 dv pv w':=⟨aK hg h.1 (by omega),aK hg h.2 (by omega)⟩
theorem Blk.own {w0 w w':World} {dv pv v:Value} {base n size:Nat} {e:TypeId} {xs:List Value} (h:Blk w0 dv pv w) (ho:w.ownsRow base e size v n xs) (he:e≠60) (hg:w.grownBy w' v.ownBlock):Blk w0 dv pv w':=⟨zfH ho h.1 he hg,zfH ho h.2 he hg⟩
theorem Blk.set0 {w0 w:World} {dv pv:Value} (h:Blk w0 dv pv w) (u:Value):Blk w0 u pv (w.setCell ⟨w0.heap.size+1,0,none⟩ u) :=
 ⟨(Below.heap_setCell w ⟨w0.heap.size+1,0,none⟩ u w0.heap.size (by simp only;omega)).trans h.1,heap_setCell_same w _ 0 _ _ u h.2⟩
theorem Blk.set1 {w0 w:World} {dv pv:Value} (h:Blk w0 dv pv w) (u:Value):Blk w0 dv u (w.setCell ⟨w0.heap.size+1,1,none⟩ u) :=
 ⟨(Below.heap_setCell w ⟨w0.heap.size+1,1,none⟩ u w0.heap.size (by simp only;omega)).trans h.1,heap_setCell_same w _ 1 _ _ u h.2⟩
theorem Blk.away {w0 w:World} {dv pv v:Value} {base n size:Nat} {e:TypeId} {xs:List Value} (h:Blk w0 dv pv w) (ho:w.ownsRow base e size v n xs) (he:e≠60):bM w v (some (w0.heap.size+1)):=⟨zac h.2 (by decide),.inr (zbl ho h.2 he)⟩
theorem Blk.cut {w0 w:World} {dv pv:Value} {n:Nat} (h:Blk w0 dv pv w) (hn:w0.heap.size+1<n):Blk w0 dv pv (bW w n):=⟨(zau w n _ (by omega)).trans h.1,(zau w n _ hn).trans h.2⟩
theorem bG.less {L:List Int} {w:World} {base base':Nat} {v:Value} {ps:List Y.Prd} (h:bG L w base v ps) (hb:base'≤base):bG L w base' v ps:=by
 obtain⟨qs,h1,h2,h3⟩:=h
 refine⟨qs,h1,⟨h2.1,?_⟩,fun q hq=>(h3 q hq).less hb⟩
 rcases h2.2 with h0|⟨g,cap,cur,e,hb1,hr⟩
 ·exact .inl h0
 ·exact .inr ⟨g,cap,cur,e,by omega,hr⟩
def QAt (L:List Int) (B R px py:Nat) (w0:World) (PB:Nat) (ds:List Y.Dcl) (dv:Value) (GS:Y.Res (List Y.Prd)) (f:Nat) (acc:List Y.Prd) (rest:List Tok) (pv:Value) (w:World):Prop :=
 w0.grownBy w (some R)∧Rdr L B R px py w rest∧bI L (bW w PB) w0.heap.size dv ds∧bG L w PB pv acc∧Blk w0 dv pv w∧PB≤w.heap.size∧acc.length+rest.length≤4000∧rest.length<f∧Y.groups f acc rest=GS
theorem zdc (f:Nat) (acc:List Y.Prd) (ts:List Tok) (h:ts.length=0∨Y.is [9] ts=true):Y.groups (f+1) acc ts=.ok acc ts:=by
 rw[Y.groups,if_neg]
 rintro⟨h1,h2⟩
 rcases h with h|h
 ·exact h1 h
 ·rw[h]at h2;cases h2
theorem zif (f:Nat) (acc:List Y.Prd) (ts:List Tok) (h:ts.length≠0) (h2:Y.is [9] ts=false):Y.groups (f+1) acc ts=(Y.group acc ts).bind fun ps r=>Y.groups f ps r:=by rw[Y.groups,if_pos ⟨h,h2⟩]
def DAt (L:List Int) (B R px py:Nat) (ts:List Tok) (w0:World) (f:Nat) (acc:List Y.Dcl) (rest:List Tok) (dv:Value) (w:World):Prop :=
 w0.grownBy w (some R)∧Rdr L B R px py w rest∧bI L w w0.heap.size dv acc∧Blk w0 dv (.slice none 0 0) w∧acc.length+rest.length≤ts.length∧rest.length<f∧Y.decls f acc rest=Y.decls (ts.length+1) [] ts
def zbb (n:Nat) (w:World):Nat:=match w.cell? ⟨n,0,none⟩ with|some (.slice _ k _)=>k|_=>0
theorem Rdr.len {L:List Int} {B R px py:Nat} {w:World} {ts:List Tok} (h:Rdr L B R px py w ts):zbb R w=ts.length:=by
 obtain⟨A,c,h0,_⟩:=h.cell0
 unfold zbb
 rw[h0]
theorem zf9 (L:List Int) (B R px py:Nat) (ts:List Tok) (w:World) (hr:Rdr L B R px py w ts) :
  Calls Tryz.prog 85 #[.pointer (some ⟨R,0,none⟩)] w (zfl L B R px py w (VSrc L w.heap.size) (Y.source ts)):=by
 have HR:=aA hr
 have hR:=hr.lt
 have hts:ts.length≤4000:=by obtain⟨_,_,_,_,h,_⟩:=hr;exact h
 have HS:Hid (Y.source ts=(Y.decls (ts.length+1) [] ts).bind fun ds r=>(Y.take [9] r).bind fun _ r=>(Y.group [] r).bind fun ps r=>(Y.groups (r.length+1) ps r).bind fun ps r=>(Y.tail r).bind fun _ r=>.ok (ds,ps) r):=aA rfl
 clear hr
 generalize Y.source ts=RES at *
 go_enter Tryz.func85,Tryz.ntmps85
 go_wp2
 have HB0:Hid (Blk w (.slice none 0 0) (.slice none 0 0) ((w.alloc (.cells #[.slice none 0 0,.slice none 0 0] 60)).alloc (.cells #[.slice none 0 0,.slice none 0 0] 60))):=aA (by
  refine⟨?_,?_⟩
  ·rw[Below.heap_alloc _ _ _ (by simp)];exact heap_alloc_new w _
  ·have:=heap_alloc_new (w.alloc (.cells #[.slice none 0 0,.slice none 0 0] 60)) (.cells #[.slice none 0 0,.slice none 0 0] 60)
   rwa [show(w.alloc (.cells #[.slice none 0 0,.slice none 0 0] 60)).heap.size=w.heap.size+1 by simp]at this)
 go_loopw [] (fun wr=>∃(f:Nat) (acc:List Y.Dcl) (rest:List Tok) (dv:Value),DAt L B R px py ts w f acc rest dv wr) (fun wr=>8001-zbb (w.heap.size+1) wr)
 case atStart=>exact⟨ts.length+1,[],ts,.slice none 0 0,aC (aC (World.grownBy.refl _ _) _) _,(HR.out.alloc _).alloc _,bI.nil _ _ _,HB0.out,by simp,by omega,rfl⟩
 case round =>
  clear HB0 HR
  obtain⟨f,acc,rest,dv,hg,hrd,ho,hbk,hlen,hf,hsc⟩:=hrel
  obtain⟨w1,hw1⟩:∃w1:World,w1=wr:=⟨_,rfl⟩
  subst hw1
  obtain⟨A0,k0,rfl,hk0,hk1⟩:=ho.form
  clear hk0 hk1
  have HIS:=aA (zku L B R px py rest [9] (by decide) w1)
  have HG0:=aA hg
  have HRD0:=aA hrd
  have HO0:=aA ho
  have HBK1:=aA hbk
  have HL:=aA hlen
  have HF:=aA hf
  have HSC0:=aA hsc
  clear hg hrd ho hbk hlen hf hsc
  obtain⟨f,rfl⟩:∃f',f=f'+1:=⟨f-1,by have:=HF.out;omega⟩
  rcases hb:Y.is [9] rest with _|_
  ·rw[hb]at HIS
   have HSC1:Hid ((Y.decl rest).bind (fun d r=>Y.decls f (acc++[d]) r)=Y.decls (ts.length+1) [] ts):=aA (by rw[←HSC0.out,Y.decls,hb];rfl)
   clear hb HSC0
   have HDC:=aA (fun(x:World) (h:Rdr L B R px py x rest)=>zjr L B R px py rest x h)
   rcases hdc:Y.decl rest with⟨d,r⟩|p
   ·rw[hdc]at HDC HSC1
    have HDL:Hid (r.length<rest.length):=aA (Y.decl_len hdc)
    have HSC:Hid (Y.decls f (acc++[d]) r=Y.decls (ts.length+1) [] ts):=aA HSC1.out
    clear hdc HSC1
    go_wp2_with fail
    refine(HIS.out _ _ rfl rfl HRD0.out).mono ?_;rintro _ wi ⟨rfl,hgi⟩
    have HGI:=aA (HG0.out.trans (hgi.row _))
    have HRDI:=aA (HRD0.out.row hgi)
    have HOI:=aA (HO0.out.grown hgi (bM.none _ _))
    have HBKI:=aA (HBK1.out.grown (hgi.row (some R)) hR)
    clear hgi HIS HG0 HRD0 HO0
    go_upto_region 3 with fail
    refine Calm.region_tree (fun _=>True) (.two [0,2] 1 (.one [] 3 (.one [] 4 (.one [] 5 (.one [6] 7 (.fin []))))) 3 (.two [] 1 (.one [] 4 (.one [] 5 (.one [6] 7 (.fin [])))) 4 (.one [] 1 (.one [] 5 (.one [6] 7 (.fin [])))))) (by kernel_rfl) (by kernel_rfl) (fun _ _ d _ _ h=>by cases d <;> exact h) trivial ?_
    obtain⟨w2,hw2⟩:∃x,x=wi.drew:=⟨_,rfl⟩
    rw[←hw2]
    have hgd:wi.grownBy w2 .none:=by rw[hw2];exact aE _ _
    have HG2:=aA (HGI.out.trans (hgd.row _))
    have HRD2:=aA (HRDI.out.row hgd)
    have HO2:=aA (HOI.out.grown hgd (bM.none _ _))
    have HBK2:=aA (HBKI.out.grown (hgd.row (some R)) hR)
    clear hw2 hgd HGI HRDI HOI HBKI
    simp only[Calm.wpT,Calm.wpSt,Calm.pickOps,List.getElem?_toArray,List.getElem?_cons_zero,List.getElem?_cons_succ]
    repeat (go_big_quiet_step (fail))
    refine wpQuiet_nil ?_
    refine⟨?_,?_⟩
    ·intro KK hKK
     try rw[if_pos (by rfl)]
     have c0:=cell_of_row w2 _ 0 _ _ _ HBK2.out.2
     go_wp2_with fail
     clear c0
     refine hKK _ _ trivial (fun _=>True) (fun _ _=>trivial) trivial ?_
     repeat (go_big_quiet_step (fail))
     refine wpQuiet_nil ?_
     intro KK hKK
     try rw[if_pos (by rfl)]
     go_wp2_with fail
     refine(HDC.out _ HRD2.out).mono ?_;rintro _ w3 ⟨hg3,v3,rfl,hrd3,A,c,rfl,hrr3⟩
     have HG3:=aA (HG2.out.trans hg3)
     have HRD3:=aA hrd3
     have HO3:=aA (HO2.out.grown hg3 (HO2.out.away HRD2.out hR))
     have HBK3:=aA (HBK2.out.grown hg3 hR)
     have HRR3:=aA (hrr3.less HG2.out.size)
     clear hg3 hrd3 hrr3
     go_wp2_with fail
     refine hKK _ _ trivial (fun _=>True) (fun _ _=>trivial) trivial ?_
     repeat (go_big_quiet_step (fail))
     refine wpQuiet_nil ?_
     intro KK hKK
     try rw[if_pos (by rfl)]
     go_wp2_with fail
     obtain⟨w4,hw4⟩:∃x,x=w3.alloc (.cells #[.int .i64 d.k,.slice A d.ns.length c] 131):=⟨_,rfl⟩
     rw[←hw4]
     have hgn:w3.grownBy w4 .none:=by rw[hw4];exact aC (World.grownBy.refl _ _) _
     have HCE:Hid (∀j u,(zao d A c)[j]?=some u→w4.cell? ⟨w3.heap.size,j,none⟩=some u):=aA (by
      intro j u hu
      rw[hw4,World.cell?_alloc_new]
      simpa[zao] using hu)
     have HG4:=aA (HG3.out.trans (hgn.row _))
     have HRD4:=aA (HRD3.out.row hgn)
     have HO4:=aA (HO3.out.grown hgn (bM.none _ _))
     have HBK4:=aA (HBK3.out.grown (hgn.row (some R)) hR)
     have HRR4:=aA (HRR3.out.grown hgn (bA.none _))
     clear hw4 hgn
     refine hKK _ _ trivial (fun _=>True) (fun _ _=>trivial) trivial ?_
     repeat (go_big_quiet_step (fail))
     refine wpQuiet_nil ?_
     intro KK hKK
     try rw[if_pos (by rfl)]
     obtain⟨zs,hown⟩:=HO4.out.own
     refine zcI (.tmp 9) (.tmp 12) _ rfl Tryz.underlying57 L w.heap.size _ acc rfl HO4.out _ 1 d A c rfl HCE.out HRR4.out (by have:=HL.out;omega) HG4.out.size ?_
     intro v5 w5 ho5 hg5
     have HG5:=aA (aS HG4.out hown hg5)
     have HRD5:=aA (HRD4.out.own hown hg5 hR)
     have HBK5:=aA (HBK4.out.own hown (by decide) hg5)
     have HO5:=aA ho5
     clear ho5 hg5 hown HCE
     obtain⟨A5,c5,rfl,hcc5,_⟩:=HO5.out.form
     rw[show(acc++[d]).length=acc.length+1 by simp]at HO5
     go_wp2_with fail
     refine hKK _ _ trivial (fun _=>True) (fun _ _=>trivial) trivial ?_
     repeat (go_big_quiet_step (fail))
     refine wpQuiet_nil ?_
     intro KK hKK
     try rw[if_pos (by rfl)]
     obtain⟨zs2,hown⟩:=HO5.out.own
     have c0:=cell_of_row w5 _ 0 _ _ _ HBK5.out.2
     have f0:=frozen_of_row w5 _ 0 _ _ HBK5.out.2
     go_wp2_with fail
     refine hKK _ _ trivial (fun _=>True) (fun _ _=>trivial) trivial ?_
     refine wpQuiet_nil ?_
     go_wp2_with fail
     go_roundw
     case rel =>
      refine⟨f,acc++[d],r,.slice A5 (acc.length+1) c5,aI HG5.out _ _ _ (by omega),HRD5.out.far _ _ _ (by omega),HO5.out.grown (aD (World.grownBy.refl _ _) _ _) (HBK5.out.away hown (by decide)),HBK5.out.set0 _,by have:=HL.out;have:=HDL.out;simp;omega,by have:=HF.out;have:=HDL.out;omega,HSC.out⟩
     case measure =>
      have e1:∀dv (x:World),Blk w dv (.slice none 0 0) x→x.cell? ⟨w.heap.size+1,0,none⟩=some dv:=fun dv x h=>by rw[cell_of_row x _ 0 _ _ _ h.2];rfl
      have hm0:=e1 _ _ HBK1.out
      have hm1:=e1 _ _ (HBK5.out.set0 (.slice A5 (acc.length+1) c5))
      have:=HL.out
      unfold zbb
      rw[hm0,hm1]
      simp only
      omega
    ·intro KK hKK
     try rw[if_pos (by rfl)]
     go_wp2_with fail
     refine(HDC.out _ HRD2.out).mono ?_;rintro _ w3 ⟨hg3,v3,rfl,hrd3,A,c,rfl,hrr3⟩
     have HG3:=aA (HG2.out.trans hg3)
     have HRD3:=aA hrd3
     have HO3:=aA (HO2.out.grown hg3 (HO2.out.away HRD2.out hR))
     have HBK3:=aA (HBK2.out.grown hg3 hR)
     have HRR3:=aA (hrr3.less HG2.out.size)
     clear hg3 hrd3 hrr3
     go_wp2_with fail
     refine hKK _ _ trivial (fun _=>True) (fun _ _=>trivial) trivial ?_
     repeat (go_big_quiet_step (fail))
     refine wpQuiet_nil ?_
     refine⟨?_,?_⟩
     ·intro KK hKK
      try rw[if_pos (by rfl)]
      have c0:=cell_of_row w3 _ 0 _ _ _ HBK3.out.2
      go_wp2_with fail
      clear c0
      refine hKK _ _ trivial (fun _=>True) (fun _ _=>trivial) trivial ?_
      repeat (go_big_quiet_step (fail))
      refine wpQuiet_nil ?_
      intro KK hKK
      try rw[if_pos (by rfl)]
      go_wp2_with fail
      obtain⟨w4,hw4⟩:∃x,x=w3.alloc (.cells #[.int .i64 d.k,.slice A d.ns.length c] 131):=⟨_,rfl⟩
      rw[←hw4]
      have hgn:w3.grownBy w4 .none:=by rw[hw4];exact aC (World.grownBy.refl _ _) _
      have HCE:Hid (∀j u,(zao d A c)[j]?=some u→w4.cell? ⟨w3.heap.size,j,none⟩=some u):=aA (by
       intro j u hu
       rw[hw4,World.cell?_alloc_new]
       simpa[zao] using hu)
      have HG4:=aA (HG3.out.trans (hgn.row _))
      have HRD4:=aA (HRD3.out.row hgn)
      have HO4:=aA (HO3.out.grown hgn (bM.none _ _))
      have HBK4:=aA (HBK3.out.grown (hgn.row (some R)) hR)
      have HRR4:=aA (HRR3.out.grown hgn (bA.none _))
      clear hw4 hgn
      refine hKK _ _ trivial (fun _=>True) (fun _ _=>trivial) trivial ?_
      repeat (go_big_quiet_step (fail))
      refine wpQuiet_nil ?_
      intro KK hKK
      try rw[if_pos (by rfl)]
      obtain⟨zs,hown⟩:=HO4.out.own
      refine zcI (.tmp 9) (.tmp 12) _ rfl Tryz.underlying57 L w.heap.size _ acc rfl HO4.out _ 1 d A c rfl HCE.out HRR4.out (by have:=HL.out;omega) HG4.out.size ?_
      intro v5 w5 ho5 hg5
      have HG5:=aA (aS HG4.out hown hg5)
      have HRD5:=aA (HRD4.out.own hown hg5 hR)
      have HBK5:=aA (HBK4.out.own hown (by decide) hg5)
      have HO5:=aA ho5
      clear ho5 hg5 hown HCE
      obtain⟨A5,c5,rfl,hcc5,_⟩:=HO5.out.form
      rw[show(acc++[d]).length=acc.length+1 by simp]at HO5
      go_wp2_with fail
      refine hKK _ _ trivial (fun _=>True) (fun _ _=>trivial) trivial ?_
      repeat (go_big_quiet_step (fail))
      refine wpQuiet_nil ?_
      intro KK hKK
      try rw[if_pos (by rfl)]
      obtain⟨zs2,hown⟩:=HO5.out.own
      have c0:=cell_of_row w5 _ 0 _ _ _ HBK5.out.2
      have f0:=frozen_of_row w5 _ 0 _ _ HBK5.out.2
      go_wp2_with fail
      refine hKK _ _ trivial (fun _=>True) (fun _ _=>trivial) trivial ?_
      refine wpQuiet_nil ?_
      go_wp2_with fail
      go_roundw
      case rel =>
       refine⟨f,acc++[d],r,.slice A5 (acc.length+1) c5,aI HG5.out _ _ _ (by omega),HRD5.out.far _ _ _ (by omega),HO5.out.grown (aD (World.grownBy.refl _ _) _ _) (HBK5.out.away hown (by decide)),HBK5.out.set0 _,by have:=HL.out;have:=HDL.out;simp;omega,by have:=HF.out;have:=HDL.out;omega,HSC.out⟩
      case measure =>
       have e1:∀dv (x:World),Blk w dv (.slice none 0 0) x→x.cell? ⟨w.heap.size+1,0,none⟩=some dv:=fun dv x h=>by rw[cell_of_row x _ 0 _ _ _ h.2];rfl
       have hm0:=e1 _ _ HBK1.out
       have hm1:=e1 _ _ (HBK5.out.set0 (.slice A5 (acc.length+1) c5))
       have:=HL.out
       unfold zbb
       rw[hm0,hm1]
       simp only
       omega
     ·intro KK hKK
      try rw[if_pos (by rfl)]
      go_wp2_with fail
      obtain⟨w4,hw4⟩:∃x,x=w3.alloc (.cells #[.int .i64 d.k,.slice A d.ns.length c] 131):=⟨_,rfl⟩
      rw[←hw4]
      have hgn:w3.grownBy w4 .none:=by rw[hw4];exact aC (World.grownBy.refl _ _) _
      have HCE:Hid (∀j u,(zao d A c)[j]?=some u→w4.cell? ⟨w3.heap.size,j,none⟩=some u):=aA (by
       intro j u hu
       rw[hw4,World.cell?_alloc_new]
       simpa[zao] using hu)
      have HG4:=aA (HG3.out.trans (hgn.row _))
      have HRD4:=aA (HRD3.out.row hgn)
      have HO4:=aA (HO3.out.grown hgn (bM.none _ _))
      have HBK4:=aA (HBK3.out.grown (hgn.row (some R)) hR)
      have HRR4:=aA (HRR3.out.grown hgn (bA.none _))
      clear hw4 hgn
      refine hKK _ _ trivial (fun _=>True) (fun _ _=>trivial) trivial ?_
      repeat (go_big_quiet_step (fail))
      refine wpQuiet_nil ?_
      intro KK hKK
      try rw[if_pos (by rfl)]
      have c0:=cell_of_row w4 _ 0 _ _ _ HBK4.out.2
      go_wp2_with fail
      clear c0
      refine hKK _ _ trivial (fun _=>True) (fun _ _=>trivial) trivial ?_
      repeat (go_big_quiet_step (fail))
      refine wpQuiet_nil ?_
      intro KK hKK
      try rw[if_pos (by rfl)]
      obtain⟨zs,hown⟩:=HO4.out.own
      refine zcI (.tmp 9) (.tmp 12) _ rfl Tryz.underlying57 L w.heap.size _ acc rfl HO4.out _ 1 d A c rfl HCE.out HRR4.out (by have:=HL.out;omega) HG4.out.size ?_
      intro v5 w5 ho5 hg5
      have HG5:=aA (aS HG4.out hown hg5)
      have HRD5:=aA (HRD4.out.own hown hg5 hR)
      have HBK5:=aA (HBK4.out.own hown (by decide) hg5)
      have HO5:=aA ho5
      clear ho5 hg5 hown HCE
      obtain⟨A5,c5,rfl,hcc5,_⟩:=HO5.out.form
      rw[show(acc++[d]).length=acc.length+1 by simp]at HO5
      go_wp2_with fail
      refine hKK _ _ trivial (fun _=>True) (fun _ _=>trivial) trivial ?_
      repeat (go_big_quiet_step (fail))
      refine wpQuiet_nil ?_
      intro KK hKK
      try rw[if_pos (by rfl)]
      obtain⟨zs2,hown⟩:=HO5.out.own
      have c0:=cell_of_row w5 _ 0 _ _ _ HBK5.out.2
      have f0:=frozen_of_row w5 _ 0 _ _ HBK5.out.2
      go_wp2_with fail
      refine hKK _ _ trivial (fun _=>True) (fun _ _=>trivial) trivial ?_
      refine wpQuiet_nil ?_
      go_wp2_with fail
      go_roundw
      case rel =>
       refine⟨f,acc++[d],r,.slice A5 (acc.length+1) c5,aI HG5.out _ _ _ (by omega),HRD5.out.far _ _ _ (by omega),HO5.out.grown (aD (World.grownBy.refl _ _) _ _) (HBK5.out.away hown (by decide)),HBK5.out.set0 _,by have:=HL.out;have:=HDL.out;simp;omega,by have:=HF.out;have:=HDL.out;omega,HSC.out⟩
      case measure =>
       have e1:∀dv (x:World),Blk w dv (.slice none 0 0) x→x.cell? ⟨w.heap.size+1,0,none⟩=some dv:=fun dv x h=>by rw[cell_of_row x _ 0 _ _ _ h.2];rfl
       have hm0:=e1 _ _ HBK1.out
       have hm1:=e1 _ _ (HBK5.out.set0 (.slice A5 (acc.length+1) c5))
       have:=HL.out
       unfold zbb
       rw[hm0,hm1]
       simp only
       omega
   ·rw[hdc]at HDC HSC1
    have HSB:Hid (RES=.bad p):=aA (by rw[HS.out,←HSC1.out];rfl)
    clear hdc HSC1
    obtain rfl:=HSB.out
    have HSB:Hid (True):=aA trivial
    go_wp2_with fail
    refine(HIS.out _ _ rfl rfl HRD0.out).mono ?_;rintro _ wi ⟨rfl,hgi⟩
    have HGI:=aA (HG0.out.trans (hgi.row _))
    have HRDI:=aA (HRD0.out.row hgi)
    have HOI:=aA (HO0.out.grown hgi (bM.none _ _))
    have HBKI:=aA (HBK1.out.grown (hgi.row (some R)) hR)
    clear hgi HIS HG0 HRD0 HO0
    go_upto_region 3 with fail
    refine Calm.region_tree (fun _=>True) (.two [0,2] 1 (.one [] 3 (.one [] 4 (.one [] 5 (.one [6] 7 (.fin []))))) 3 (.two [] 1 (.one [] 4 (.one [] 5 (.one [6] 7 (.fin [])))) 4 (.one [] 1 (.one [] 5 (.one [6] 7 (.fin [])))))) (by kernel_rfl) (by kernel_rfl) (fun _ _ d _ _ h=>by cases d <;> exact h) trivial ?_
    obtain⟨w2,hw2⟩:∃x,x=wi.drew:=⟨_,rfl⟩
    rw[←hw2]
    have hgd:wi.grownBy w2 .none:=by rw[hw2];exact aE _ _
    have HG2:=aA (HGI.out.trans (hgd.row _))
    have HRD2:=aA (HRDI.out.row hgd)
    have HO2:=aA (HOI.out.grown hgd (bM.none _ _))
    have HBK2:=aA (HBKI.out.grown (hgd.row (some R)) hR)
    clear hw2 hgd HGI HRDI HOI HBKI
    simp only[Calm.wpT,Calm.wpSt,Calm.pickOps,List.getElem?_toArray,List.getElem?_cons_zero,List.getElem?_cons_succ]
    repeat (go_big_quiet_step (fail))
    refine wpQuiet_nil ?_
    refine⟨?_,?_⟩
    ·intro KK hKK
     try rw[if_pos (by rfl)]
     have c0:=cell_of_row w2 _ 0 _ _ _ HBK2.out.2
     go_wp2_with fail
     clear c0
     refine hKK _ _ trivial (fun _=>True) (fun _ _=>trivial) trivial ?_
     repeat (go_big_quiet_step (fail))
     refine wpQuiet_nil ?_
     intro KK hKK
     try rw[if_pos (by rfl)]
     go_wp2_with fail
     refine(HDC.out _ HRD2.out).mono ?_;rintro _ w3 ⟨hg3,rfl⟩
     exact⟨rfl,HG2.out.trans hg3,rfl⟩
    ·intro KK hKK
     try rw[if_pos (by rfl)]
     go_wp2_with fail
     refine(HDC.out _ HRD2.out).mono ?_;rintro _ w3 ⟨hg3,rfl⟩
     exact⟨rfl,HG2.out.trans hg3,rfl⟩
  ·rw[hb]at HIS
   obtain⟨t9,r9,hrest,htk,_⟩:=Y.is_true hb
   have HTK:=aA (fun(x:World)=>zcc L B R px py rest [9] (by decide) x)
   rw[htk]at HTK
   unfold zgT at HTK
   have HS2:Hid (RES=(Y.group [] r9).bind fun ps r=>(Y.groups (r.length+1) ps r).bind fun ps r=>(Y.tail r).bind fun _ r=>.ok (acc,ps) r):=aA (by
    rw[HS.out,←HSC0.out,Y.decls,if_pos hb,Y.bind_ok,htk,Y.bind_ok])
   have HR9:Hid (r9.length≤4000):=aA (by have:=HL.out;rw[hrest]at this;simp at this;omega)
   clear hb htk hrest HSC0 HF HS
   have HGP:=aA (fun(x:World) (h:Rdr L B R px py x r9)=>zew L B R px py r9 x x (.slice none 0 0) [] h (World.grownBy.refl _ _) h.lt (bG.nil _ _ _) (by have:=HR9.out;simp;omega))
   rcases hgp:Y.group [] r9 with⟨ps,r⟩|p
   ·rw[hgp]at HGP HS2
    rw[Y.bind_ok]at HS2
    have HPL:Hid (ps.length+r.length≤4000):=aA (by have:=Y.group_len hgp;have:=HR9.out;simp at *;omega)
    clear hgp
    go_wp2_with fail
    refine(HIS.out _ _ rfl rfl HRD0.out).mono ?_;rintro _ wi ⟨rfl,hgi⟩
    have HRDI:=aA (HRD0.out.row hgi)
    have HGI:=aA hgi
    clear hgi
    go_wp2_with fail
    refine(HTK.out _ _ _ rfl rfl HRDI.out).mono ?_;rintro _ w2 ⟨hg2,v2,rfl,hrd2,rfl⟩
    have hg12:=(HGI.out.row (some R)).trans hg2
    have HG2:=aA (HG0.out.trans hg12)
    have HRD2:=aA hrd2
    have HO2:=aA (HO0.out.grown hg12 (HO0.out.away HRD0.out hR))
    have HBK2:=aA (HBK1.out.grown hg12 hR)
    clear hg2 hrd2 hg12 HIS HTK
    go_wp2_with fail
    refine(HGP.out _ HRD2.out).mono ?_;rintro _ w3 ⟨hg3,pv,rfl,hrd3,hop3⟩
    obtain⟨A3,k3,rfl,_,_⟩:=hop3.form
    have HBK3:=aA (HBK2.out.grown hg3 hR)
    have HG3:=aA (HG2.out.trans hg3)
    have hb3lt:w.heap.size+1<w2.heap.size:=(Array.getElem?_eq_some_iff.1 HBK2.out.2).1
    have HC3:Hid (bI L (bW (w3.setCell ⟨w.heap.size+1,1,none⟩ (.slice A3 ps.length k3)) w2.heap.size) w.heap.size (.slice A0 acc.length k0) acc):=aA (by
     obtain⟨zs,hz⟩:=HO2.out.own
     have e1:w2.grownBy (bW w3 w2.heap.size) (some R):=by
      refine⟨hg3.os,hg3.tape,hg3.output,by rw[zaa _ _ hg3.size];exact Nat.le_refl _,fun k hk hne=>?_⟩
      rw[zau _ _ _ hk];exact hg3.block k hk hne
     have e2:(bW w3 w2.heap.size).grownBy (bW (w3.setCell ⟨w.heap.size+1,1,none⟩ (.slice A3 ps.length k3)) w2.heap.size) (some (w.heap.size+1)):=by
      refine⟨rfl,rfl,rfl,by rw[zaa _ _ hg3.size,zaa _ _ (by simpa[World.setCell] using hg3.size)];exact Nat.le_refl _,fun k hk hne=>?_⟩
      rw[zaa _ _ hg3.size]at hk
      rw[zau _ _ _ hk,zau _ _ _ hk]
      exact Below.heap_setCell w3 ⟨w.heap.size+1,1,none⟩ _ k (by rintro rfl;exact hne rfl)
     have o1:=HO2.out.grown e1 (HO2.out.away HRD2.out hR)
     obtain⟨zs1,hz1⟩:=o1.own
     exact o1.grown e2 ((HBK3.out.cut hb3lt).away hz1 (by decide)))
    have HP3:Hid (bG L (w3.setCell ⟨w.heap.size+1,1,none⟩ (.slice A3 ps.length k3)) w2.heap.size (.slice A3 ps.length k3) ps):=aA (by
     obtain⟨zs,hz⟩:=hop3.own
     exact hop3.grown (aD (World.grownBy.refl _ _) _ _) (HBK3.out.away hz (by decide)))
    have HRD3:=aA hrd3
    have HSZ:Hid (w2.heap.size≤w3.heap.size):=aA hg3.size
    have c1:=cell_of_row w3 _ 1 _ _ _ HBK3.out.2
    have f1:=frozen_of_row w3 _ 1 _ _ HBK3.out.2
    clear hg3 hrd3 hop3 HGP HO2 HG2 HRD2 HBK2 HO0 HG0 HRD0 HBK1 HL HRDI HGI
    go_wp2_with fail
    clear c1 f1
    have HGS:Hid (RES=(Y.groups (r.length+1) ps r).bind fun ps r=>(Y.tail r).bind fun _ r=>.ok (acc,ps) r):=aA HS2.out
    clear HS2
    generalize hGS:Y.groups (r.length+1) ps r=GS at *
    have HGS0:=aA hGS
    clear hGS
    go_loopw [] (fun wr=>∃(f:Nat) (acc2:List Y.Prd) (rest2:List Tok) (pv:Value),QAt L B R px py w w2.heap.size acc (.slice A0 acc.length k0) GS f acc2 rest2 pv wr) (fun wr=>zbb R wr)
    case atStart=>exact⟨r.length+1,ps,r,.slice A3 ps.length k3,aI HG3.out _ _ _ (by omega),HRD3.out.far _ _ _ (by omega),HC3.out,HP3.out,HBK3.out.set1 _,by have:=HSZ.out;simpa[World.setCell] using this,HPL.out,by omega,HGS0.out⟩
    case round =>
     clear HG3 HRD3 HC3 HP3 HBK3 HSZ HPL HGS0
     obtain⟨f,acc2,rest2,pv,hg,hrd,hcd,hop,hbk,hpb,hlen,hf,hgs⟩:=hrel
     obtain⟨w4,hw4⟩:∃w4:World,w4=wr:=⟨_,rfl⟩
     subst hw4
     obtain⟨A4,k4,rfl,hk0,hk1⟩:=hop.form
     obtain⟨f,rfl⟩:∃f',f=f'+1:=⟨f-1,by omega⟩
     clear hk0 hk1
     have HG:=aA hg
     have HRD:=aA hrd
     have HCD:=aA hcd
     have HOP:=aA hop
     have HBK:=aA hbk
     have HPB:=aA hpb
     have HL:=aA hlen
     have HF:=aA hf
     have HGS1:=aA hgs
     obtain⟨AR,cR,h0,_,_,_,_,_⟩:=hrd.cell0
     clear hg hrd hcd hop hbk hpb hlen hf hgs
     by_cases hrl:rest2.length=0
     ·have HE:Hid (GS=.ok acc2 rest2):=aA (by rw[←HGS1.out,zdc _ _ _ (.inl hrl)])
      obtain rfl:=HE.out
      have HDX:=aA (HCD.out.grown (zbK w4 _ HPB.out .none) (bM.none _ _))
      have HPX:=aA (HOP.out.less (show w.heap.size≤w2.heap.size by omega))
      have HGX:=aA HG.out
      have HRDX:=aA HRD.out
      have HBKX:=aA HBK.out
      have hl0:¬0<(rest2.length:Int):=by omega
      clear HG HRD HCD HOP HBK HPB HL HF HGS1 HE hrl
      have HTL:=aA (zdS L B R px py rest2 _ HRDX.out)
      rw[Y.bind_ok]at HGS
      rcases htl:Y.tail rest2 with⟨u,r5⟩|p
      ·rw[htl]at HTL HGS
       rw[Y.bind_ok]at HGS
       clear htl
       obtain rfl:=HGS.out
       go_wp2_with fail
       refine HTL.out.mono ?_;rintro _ w5 ⟨hg5,v5,rfl,hrd5,_⟩
       have HRD5:=aA hrd5
       have HG5:=aA (HGX.out.trans hg5)
       have HD5:=aA (HDX.out.grown hg5 (HDX.out.away HRDX.out hR))
       have HP5:=aA (HPX.out.grown hg5 (HPX.out.away HRDX.out hR))
       have HBK5:=aA (HBKX.out.grown hg5 hR)
       have c0:=cell_of_row w5 _ 0 _ _ _ HBK5.out.2
       have c1:=cell_of_row w5 _ 1 _ _ _ HBK5.out.2
       have d0:=cell_of_row w5 _ 0 _ _ _ HBK5.out.1
       have d1:=cell_of_row w5 _ 1 _ _ _ HBK5.out.1
       have f0:=frozen_of_row w5 _ 0 _ _ HBK5.out.1
       have f1:=frozen_of_row w5 _ 1 _ _ HBK5.out.1
       have HOT:=aA (zac HBK5.out.1 (by decide))
       have HWD:Hid (bM w5 (.slice A0 acc.length k0) (some w.heap.size)):=aA (by
        obtain⟨zs,hz⟩:=HD5.out.own
        exact⟨HOT.out,.inr (zbl hz HBK5.out.1 (by decide))⟩)
       have HWP:Hid (bM w5 (.slice A4 acc2.length k4) (some w.heap.size)):=aA (by
        obtain⟨zs,hz⟩:=HP5.out.own
        exact⟨HOT.out,.inr (zbl hz HBK5.out.1 (by decide))⟩)
       clear hg5 hrd5 HTL HGX HRDX HDX HPX HBKX
       go_wp2
       refine bodyPost_ret (v:=.agg #[.slice A0 acc.length k0,.slice A4 acc2.length k4]) (by simp[results,Tryz.results85,go_sem,d0,d1]) rfl ⟨aI (aI HG5.out _ _ _ (Nat.le_refl _)) _ _ _ (Nat.le_refl _),_,rfl,(HRD5.out.far _ _ _ hR).far _ _ _ hR,_,_,rfl,HD5.out.grown (aD (aD (World.grownBy.refl _ _) _ _) _ _) HWD.out,HP5.out.grown (aD (aD (World.grownBy.refl _ _) _ _) _ _) HWP.out⟩
      ·rw[htl]at HTL HGS
       rw[Y.bind_bad]at HGS
       clear htl
       obtain rfl:=HGS.out
       go_wp2_with fail
       refine HTL.out.mono ?_;rintro _ w5 ⟨hg5,rfl⟩
       exact⟨rfl,HGX.out.trans hg5,rfl⟩
     ·have hl0:0<(rest2.length:Int):=by omega
      have HIS:=aA (zku L B R px py rest2 [9] (by decide) w4)
      rcases hb:Y.is [9] rest2 with _|_
      ·rw[hb]at HIS
       have HGS2:Hid ((Y.group acc2 rest2).bind (fun ps r=>Y.groups f ps r)=GS):=aA (by rw[←HGS1.out,zif _ _ _ hrl hb])
       clear hb hrl HGS1
       have HLN:Hid (zbb R w4=rest2.length):=aA HRD.out.len
       have HGP2:=aA (fun(x:World) (h:Rdr L B R px py x rest2) (hpb:w2.heap.size≤x.heap.size) (ho:bG L x w2.heap.size (.slice A4 acc2.length k4) acc2)=>zew L B R px py rest2 (bW x w2.heap.size) x (.slice A4 acc2.length k4) acc2 h (zbK x _ hpb _) (by rw[zaa _ _ hpb];omega) (by rw[zaa _ _ hpb];exact ho) (by have:=HL.out;omega))
       rcases hgp:Y.group acc2 rest2 with⟨ps2,r2⟩|p
       ·rw[hgp]at HGP2 HGS2
        rw[Y.bind_ok]at HGS2
        have HGL:=aA (Y.group_len hgp)
        have HGR:=aA (Y.group_rest hgp)
        clear hgp
        have k1:=cell_of_row w4 _ 1 _ _ _ HBK.out.2
        go_wp2_with fail
        refine(HIS.out _ _ rfl rfl HRD.out).mono ?_;rintro _ w6 ⟨rfl,hg6⟩
        have HG6:=aA (HG.out.trans (hg6.row (some R)))
        have HRD6:=aA (HRD.out.row hg6)
        have HCD6:=aA (HCD.out.grown (zeF HPB.out hg6) (bM.none _ _))
        have HOP6:=aA (HOP.out.grown hg6 (bM.none _ _))
        have HBK6:=aA (HBK.out.grown (hg6.row (some R)) hR)
        have HPB6:Hid (w2.heap.size≤w6.heap.size):=aA (Nat.le_trans HPB.out hg6.size)
        clear hg6 HG HRD HCD HOP HBK HPB HIS k1
        have k1:=cell_of_row w6 _ 1 _ _ _ HBK6.out.2
        go_wp2_with fail
        refine(HGP2.out _ HRD6.out HPB6.out HOP6.out).mono ?_;rintro _ w7 ⟨hg7,pv7,rfl,hrd7,hop7⟩
        rw[zaa _ _ HPB6.out]at hop7
        have hbk7:=(HBK6.out.cut hb3lt).grown hg7 hR
        obtain⟨zs7,hz7⟩:=hop7.own
        have HG7:=aA ((zeG HG6.out (by omega) HPB6.out).trans hg7)
        have HPB7:Hid (w2.heap.size≤w7.heap.size):=aA (by have:=hg7.size;rwa [zaa _ _ HPB6.out]at this)
        have HRD7:=aA hrd7
        have hcd7:=HCD6.out.grown (zin HPB6.out hg7) (HCD6.out.away (HRD6.out.cut (by omega)) hR)
        obtain⟨zs8,hz8⟩:=hcd7.own
        have HCD7:=aA (fun u=>hcd7.grown (zjt w7 w2.heap.size (w.heap.size+1) 1 u HPB7.out) ((hbk7.cut hb3lt).away hz8 (by decide)))
        have HOP7:=aA (fun u=>hop7.grown (aD (World.grownBy.refl _ _) 1 u) (hbk7.away hz7 (by decide)))
        have HBK7:=aA hbk7
        obtain⟨A7,k7,rfl,_,_⟩:=hop7.form
        have e1:=cell_of_row w7 _ 1 _ _ _ hbk7.2
        have f1:=frozen_of_row w7 _ 1 _ _ hbk7.2
        clear hg7 hrd7 hop7 hbk7 hz7 hcd7 hz8 HGP2 HG6 HRD6 HCD6 HOP6 HBK6 HPB6 k1
        go_wp2_with fail
        go_roundw
        case rel=>exact⟨f,ps2,r2,.slice A7 ps2.length k7,aI HG7.out _ _ _ (by omega),HRD7.out.far _ _ _ (by omega),HCD7.out _,HOP7.out _,HBK7.out.set1 _,by have:=HPB7.out;simpa[World.setCell] using this,by have:=HL.out;have:=HGL.out;omega,by have:=HF.out;have:=HGR.out;omega,HGS2.out⟩
        case measure =>
         rw[(HRD7.out.far _ _ _ (by omega)).len,HLN.out]
         exact HGR.out
       ·rw[hgp]at HGP2 HGS2
        rw[Y.bind_bad]at HGS2
        clear hgp
        obtain rfl:=HGS2.out
        rw[Y.bind_bad]at HGS
        obtain rfl:=HGS.out
        go_wp2_with fail
        refine(HIS.out _ _ rfl rfl HRD.out).mono ?_;rintro _ w6 ⟨rfl,hg6⟩
        have HG6:=aA (HG.out.trans (hg6.row (some R)))
        have HRD6:=aA (HRD.out.row hg6)
        have HOP6:=aA (HOP.out.grown hg6 (bM.none _ _))
        have HPB6:Hid (w2.heap.size≤w6.heap.size):=aA (Nat.le_trans HPB.out hg6.size)
        have HBK6:=aA (HBK.out.grown (hg6.row (some R)) hR)
        have k1:=cell_of_row w6 _ 1 _ _ _ HBK6.out.2
        clear hg6 HG HRD HCD HOP HBK HPB HIS
        go_wp2_with fail
        refine(HGP2.out _ HRD6.out HPB6.out HOP6.out).mono ?_;rintro _ w7 ⟨hg7,rfl⟩
        exact⟨rfl,(zeG HG6.out (by omega) HPB6.out).trans hg7,rfl⟩
      ·rw[hb]at HIS
       have HE:Hid (GS=.ok acc2 rest2):=aA (by rw[←HGS1.out,zdc _ _ _ (.inr hb)])
       obtain rfl:=HE.out
       clear hb hrl HE HGS1
       go_wp2_with fail
       refine(HIS.out _ _ rfl rfl HRD.out).mono ?_;rintro _ w6 ⟨rfl,hg6⟩
       have HDX:=aA ((HCD.out.grown (zbK w4 _ HPB.out .none) (bM.none _ _)).grown hg6 (bM.none _ _))
       have HPX:=aA ((HOP.out.less (show w.heap.size≤w2.heap.size by omega)).grown hg6 (bM.none _ _))
       have HGX:=aA (HG.out.trans (hg6.row (some R)))
       have HRDX:=aA (HRD.out.row hg6)
       have HBKX:=aA (HBK.out.grown (hg6.row (some R)) hR)
       clear hg6 HG HRD HCD HOP HBK HPB HL HF HIS
       have HTL:=aA (zdS L B R px py rest2 _ HRDX.out)
       rw[Y.bind_ok]at HGS
       rcases htl:Y.tail rest2 with⟨u,r5⟩|p
       ·rw[htl]at HTL HGS
        rw[Y.bind_ok]at HGS
        clear htl
        obtain rfl:=HGS.out
        go_wp2_with fail
        refine HTL.out.mono ?_;rintro _ w5 ⟨hg5,v5,rfl,hrd5,_⟩
        have HRD5:=aA hrd5
        have HG5:=aA (HGX.out.trans hg5)
        have HD5:=aA (HDX.out.grown hg5 (HDX.out.away HRDX.out hR))
        have HP5:=aA (HPX.out.grown hg5 (HPX.out.away HRDX.out hR))
        have HBK5:=aA (HBKX.out.grown hg5 hR)
        have c0:=cell_of_row w5 _ 0 _ _ _ HBK5.out.2
        have c1:=cell_of_row w5 _ 1 _ _ _ HBK5.out.2
        have d0:=cell_of_row w5 _ 0 _ _ _ HBK5.out.1
        have d1:=cell_of_row w5 _ 1 _ _ _ HBK5.out.1
        have f0:=frozen_of_row w5 _ 0 _ _ HBK5.out.1
        have f1:=frozen_of_row w5 _ 1 _ _ HBK5.out.1
        have HOT:=aA (zac HBK5.out.1 (by decide))
        have HWD:Hid (bM w5 (.slice A0 acc.length k0) (some w.heap.size)):=aA (by
         obtain⟨zs,hz⟩:=HD5.out.own
         exact⟨HOT.out,.inr (zbl hz HBK5.out.1 (by decide))⟩)
        have HWP:Hid (bM w5 (.slice A4 acc2.length k4) (some w.heap.size)):=aA (by
         obtain⟨zs,hz⟩:=HP5.out.own
         exact⟨HOT.out,.inr (zbl hz HBK5.out.1 (by decide))⟩)
        clear hg5 hrd5 HTL HGX HRDX HDX HPX HBKX
        go_wp2
        refine bodyPost_ret (v:=.agg #[.slice A0 acc.length k0,.slice A4 acc2.length k4]) (by simp[results,Tryz.results85,go_sem,d0,d1]) rfl ⟨aI (aI HG5.out _ _ _ (Nat.le_refl _)) _ _ _ (Nat.le_refl _),_,rfl,(HRD5.out.far _ _ _ hR).far _ _ _ hR,_,_,rfl,HD5.out.grown (aD (aD (World.grownBy.refl _ _) _ _) _ _) HWD.out,HP5.out.grown (aD (aD (World.grownBy.refl _ _) _ _) _ _) HWP.out⟩
       ·rw[htl]at HTL HGS
        rw[Y.bind_bad]at HGS
        clear htl
        obtain rfl:=HGS.out
        go_wp2_with fail
        refine HTL.out.mono ?_;rintro _ w5 ⟨hg5,rfl⟩
        exact⟨rfl,HGX.out.trans hg5,rfl⟩
   ·rw[hgp]at HGP HS2
    clear hgp
    rw[Y.bind_bad]at HS2
    obtain rfl:=HS2.out
    go_wp2_with fail
    refine(HIS.out _ _ rfl rfl HRD0.out).mono ?_;rintro _ wi ⟨rfl,hgi⟩
    have HRDI:=aA (HRD0.out.row hgi)
    have HGI:=aA hgi
    clear hgi
    go_wp2_with fail
    refine(HTK.out _ _ _ rfl rfl HRDI.out).mono ?_;rintro _ w2 ⟨hg2,v2,rfl,hrd2,rfl⟩
    have HG2:=aA ((HG0.out.trans (HGI.out.row (some R))).trans hg2)
    have HRD2:=aA hrd2
    clear hg2 hrd2
    go_wp2_with fail
    refine(HGP.out _ HRD2.out).mono ?_;rintro _ w3 ⟨hg3,rfl⟩
    exact⟨rfl,HG2.out.trans hg3,rfl⟩
theorem zcG (w:World):(Instr.typeAssert .nilIface 20 125 true).run Tryz.prog w=.ok (.tuple #[.agg #[.complex .f64 0 0,.int .i64 0],.bool false]) w:=by kernel_rfl
theorem zbU (X Y:Nat) (e:Int) (w:World):(Instr.typeAssert (.iface 125 (.agg #[.complex .f64 X Y,.int .i64 e])) 20 125 true).run Tryz.prog w=.ok (.tuple #[.agg #[.complex .f64 X Y,.int .i64 e],.bool true]) w:=by kernel_rfl
theorem zhJ (w:World):Calls Tryz.prog 84 #[.nilIface] w fun e w'=>e=.returned (.agg #[.complex .f64 0 0,.int .i64 0])∧Below w.heap.size w w':=by
 have HB:=aA (fun o=>((Below.refl w.heap.size w).alloc (Nat.le_refl _) o))
 have SC:=fun a w m X Y=>show(store a (.complex .f64 X Y) m).run Tryz.prog w=stored Tryz.prog w a (.complex .f64 X Y) m from run_store _ w a _ m rfl
 have T0:=zcG
 have T1:=zbU
 have hnil:∀w:World,(binOp BinOp.neq 20 .nilIface .nilIface).run Tryz.prog w=.ok (.bool false) w:=fun _=>by kernel_rfl
 go_enter Tryz.func84,Tryz.ntmps84
 go_wp2
 exact bodyPost_ret (v:=.agg #[.complex .f64 0 0,.int .i64 0]) (by simp[results,Tryz.results84,go_sem]) rfl ⟨rfl,(HB.out _).alloc (by simp) _⟩
theorem zgo (X Y:Nat) (e:Int) (w:World):Calls Tryz.prog 84 #[.iface 125 (.agg #[.complex .f64 X Y,.int .i64 e])] w fun e' w'=>e'=.returned (.agg #[.complex .f64 X Y,.int .i64 e])∧Below w.heap.size w w':=by
 have HB:=aA (fun o=>((Below.refl w.heap.size w).alloc (Nat.le_refl _) o))
 have SC:=fun a w m X Y=>show(store a (.complex .f64 X Y) m).run Tryz.prog w=stored Tryz.prog w a (.complex .f64 X Y) m from run_store _ w a _ m rfl
 have T0:=zcG
 have T1:=zbU
 have hnil:∀w:World,(binOp BinOp.neq 20 .nilIface .nilIface).run Tryz.prog w=.ok (.bool false) w:=fun _=>by kernel_rfl
 go_enter Tryz.func84,Tryz.ntmps84
 go_wp2
 exact bodyPost_ret (v:=.agg #[.complex .f64 X Y,.int .i64 e]) (by simp[results,Tryz.results84,go_sem]) rfl ⟨rfl,(HB.out _).alloc (by simp) _⟩
theorem zgL (p4 p5 p6:Addr) (w:World) :
  CallsD Tryz.prog 83 #[.pointer (some p4),.pointer (some p5),.pointer (some p6)] .returning w fun e u' w'=>e=.returned (.tuple #[])∧u'=.returning∧Below w.heap.size w w':=by
 have SC:=fun a w m X Y=>show(store a (.complex .f64 X Y) m).run Tryz.prog w=stored Tryz.prog w a (.complex .f64 X Y) m from run_store _ w a _ m rfl
 have HO:=aA (zhJ w)
 refine callsD_of_wpS Tryz.func83 rfl fun c₀ cs hu=>?_
 apply wpS_seq
 apply wpS_region
 simp[wpOpsS,go_sem,recoverD,hu,Tryz.ntmps83,Exit.thenS]
 refine HO.out.mono ?_;rintro _ w2 ⟨rfl,hb⟩
 have HB:=aA hb
 clear hb HO
 simp[go_sem,SC]
 refine wpS_of_wp ?_
 go_wp2
 exact⟨rfl,.returning,by cases c₀;simp_all,.tuple #[],by simp[results,Tryz.results83],rfl,rfl,HB.out.alloc HB.out.size _⟩
theorem zky (p q r a b c d e f:Value):#[p,q,r]++((((((Array.replicate 11 undef).setIfInBounds 1 a).setIfInBounds 2 b).setIfInBounds 0 c).setIfInBounds 3 d).setIfInBounds 4 e).setIfInBounds 5 f=#[p,q,r,c,a,b,d,e,f,undef,undef,undef,undef,undef]:=by
 kernel_rfl
theorem zcE (b4 X Y:Nat) (e:Int) (he:e≠0) (x y z u:Value) (older:List PanicEntry) (w:World) (h4:w.heap[b4]?=some (.cells #[x,y] 60 (0,0))) (h5:w.heap[b4+1]?=some (.cells #[z] 37 (0,0))) (h6:w.heap[b4+2]?=some (.cells #[u] 30 (0,0))) :
  CallsD Tryz.prog 83 #[.pointer (some ⟨b4,0,none⟩),.pointer (some ⟨b4+1,0,none⟩),.pointer (some ⟨b4+2,0,none⟩)] (.panicking ({v:=.iface 125 (.agg #[.complex .f64 X Y,.int .i64 e]),recovered:=false} :: older)) w fun e' u' w' =>
   e'=.returned (.tuple #[])∧u'=.panicking ({v:=.iface 125 (.agg #[.complex .f64 X Y,.int .i64 e]),recovered:=true} :: older)∧Below b4 w w' ∧
   w'.heap[b4]?=some (.cells #[.slice none 0 0,.slice none 0 0] 60 (0,0))∧w'.heap[b4+1]?=some (.cells #[.complex .f64 X Y] 37 (0,0))∧w'.heap[b4+2]?=some (.cells #[.int .i64 e] 30 (0,0)):=by
 have SC:=fun a w m X Y=>show(store a (.complex .f64 X Y) m).run Tryz.prog w=stored Tryz.prog w a (.complex .f64 X Y) m from run_store _ w a _ m rfl
 have HO:=aA (zgo X Y e w)
 have hs6:b4+2<w.heap.size:=(Array.getElem?_eq_some_iff.1 h6).1
 refine callsD_of_wpS Tryz.func83 rfl fun c₀ cs hu=>?_
 apply wpS_seq
 apply wpS_region
 simp[wpOpsS,go_sem,recoverD,hu,Tryz.ntmps83,Exit.thenS]
 refine HO.out.mono ?_;rintro _ w2 ⟨rfl,hb⟩
 have h42:=(hb.block b4 (by omega)).trans h4
 have h52:=(hb.block (b4+1) (by omega)).trans h5
 have h62:=(hb.block (b4+2) (by omega)).trans h6
 have HB:=aA (hb.mono (show b4≤w.heap.size by omega))
 have hs2:b4+2<w2.heap.size:=by have:=hb.size;omega
 have H4:=aA h42
 have H5:=aA h52
 have H6:=aA h62
 have c40:=cell_of_row w2 b4 0 _ _ _ h42
 have c41:=cell_of_row w2 b4 1 _ _ _ h42
 have c5:=cell_of_row w2 (b4+1) 0 _ _ _ h52
 have c6:=cell_of_row w2 (b4+2) 0 _ _ _ h62
 have f40:=frozen_of_row w2 b4 0 _ _ h42
 have f41:=frozen_of_row w2 b4 1 _ _ h42
 have f5:=frozen_of_row w2 (b4+1) 0 _ _ h52
 have f6:=frozen_of_row w2 (b4+2) 0 _ _ h62
 have he':(e==0)=false:=by simpa using he
 clear hb HO h4 h5 h6 h42 h52 h62 he
 simp[go_sem,SC]
 refine wpS_of_wp ?_
 go_wp2
 rw[zky]
 obtain⟨w3,hw3⟩:∃x,x=w2.alloc (.cells #[.complex .f64 X Y,.int .i64 e] 125):=⟨_,rfl⟩
 rw[←hw3]
 have HB3:Hid (w3.heap[w2.heap.size]?=some (.cells #[.complex .f64 X Y,.int .i64 e] 125 (0,0))):=aA (by rw[hw3];exact heap_alloc_new w2 _)
 have HG3:Hid (w2.grownBy w3 .none):=aA (by rw[hw3];exact aC (World.grownBy.refl _ _) _)
 clear hw3 c40 c41 c5 c6 f40 f41 f5 f6
 have CL0:=fun y:Calm.OnB w2.heap.size w3=>(show y.1.cell? ⟨w2.heap.size,0,none⟩=some (.complex .f64 X Y) by rw[cell_of_row y.1 _ 0 _ _ _ (y.2.trans HB3.out)];rfl)
 have CL1:=fun y:Calm.OnB w2.heap.size w3=>(show y.1.cell? ⟨w2.heap.size,1,none⟩=some (.int .i64 e) by rw[cell_of_row y.1 _ 1 _ _ _ (y.2.trans HB3.out)];rfl)
 refine Calm.region_tree (fun x=>∃y:Calm.OnB w2.heap.size w3,x=y.1) (.one [0,1,2,3,4] 5 (.one [] 6 (.one [] 7 (.fin [])))) (by kernel_rfl) (by kernel_rfl) (fun _ _ d _ _ h=>by cases d <;> exact h) ⟨⟨w3.drew,rfl⟩,rfl⟩ ?_
 simp only[Calm.wpT,Calm.wpSt,Calm.pickOps,List.getElem?_toArray,List.getElem?_cons_zero,List.getElem?_cons_succ]
 repeat (go_big_quiet_step (fail))
 refine wpQuiet_nil ?_
 clear CL0 CL1
 obtain⟨w4,hw4⟩:∃x,x=w3.drew:=⟨_,rfl⟩
 rw[←hw4]
 have hg4:w2.grownBy w4 .none:=by rw[hw4];exact HG3.out.trans (aE _ _)
 have hm4:w4.heap[w2.heap.size]?=w3.heap[w2.heap.size]?:=by rw[hw4];rfl
 have h4:=(hg4.block b4 (by omega) (by simp)).trans H4.out
 have h5:=(hg4.block (b4+1) (by omega) (by simp)).trans H5.out
 have h6:=(hg4.block (b4+2) (by omega) (by simp)).trans H6.out
 have HB4:=aA (HB.out.trans ((show Below b4 w2 w4 from⟨hg4.os,hg4.tape,hg4.output,hg4.size,fun k hk=>hg4.block k (by omega) (by simp)⟩)))
 clear hw4 hg4 HG3 HB3 H4 H5 H6
 intro KK hKK
 try rw[if_pos (by rfl)]
 have c40:=cell_of_row w4 b4 0 _ _ _ h4
 have c41:=cell_of_row w4 b4 1 _ _ _ h4
 have f40:=frozen_of_row w4 b4 0 _ _ h4
 have f41:=frozen_of_row w4 b4 1 _ _ h4
 go_wp2_with fail
 clear c40 c41 f40 f41
 obtain⟨w5,hw5⟩:∃x,x=(w4.setCell ⟨b4,0,none⟩ (.slice none 0 0)).setCell ⟨b4,1,none⟩ (.slice none 0 0):=⟨_,rfl⟩
 rw[←hw5]
 have far5:∀k,k≠b4→w5.heap[k]?=w4.heap[k]?:=fun k hk=>by
  rw[hw5];exact(Below.heap_setCell _ ⟨b4,1,none⟩ _ k (by simpa using hk)).trans (Below.heap_setCell _ ⟨b4,0,none⟩ _ k (by simpa using hk))
 have h45:w5.heap[b4]?=some (.cells #[.slice none 0 0,.slice none 0 0] 60 (0,0)):=by rw[hw5];exact zjL h4 _ _
 have h55:=(far5 (b4+1) (by omega)).trans h5
 have h65:=(far5 (b4+2) (by omega)).trans h6
 have hm5:=(far5 w2.heap.size (by omega)).trans hm4
 have HB5:Hid (Below b4 w4 w5):=aA (by rw[hw5];exact⟨rfl,rfl,rfl,by simp[World.setCell],fun k hk=>(Below.heap_setCell _ ⟨b4,1,none⟩ _ k (by simp only;omega)).trans (Below.heap_setCell _ ⟨b4,0,none⟩ _ k (by simp only;omega))⟩)
 clear hw5 far5 h4 h5 h6
 refine hKK _ _ ⟨⟨w5,hm5⟩,rfl⟩ (fun x=>∃y:Calm.OnB w2.heap.size w3,x=y.1) (fun _ h=>h) ⟨⟨w5,hm5⟩,rfl⟩ ?_
 refine wpQuiet_nil ?_
 intro KK hKK
 try rw[if_pos (by rfl)]
 have c5:=cell_of_row w5 (b4+1) 0 _ _ _ h55
 have f5:=frozen_of_row w5 (b4+1) 0 _ _ h55
 go_wp2_with fail
 clear c5 f5
 obtain⟨w6,hw6⟩:∃x,x=w5.setCell ⟨b4+1,0,none⟩ (.complex .f64 X Y):=⟨_,rfl⟩
 rw[←hw6]
 have far6:∀k,k≠b4+1→w6.heap[k]?=w5.heap[k]?:=fun k hk=>by
  rw[hw6];exact Below.heap_setCell _ ⟨b4+1,0,none⟩ _ k (by simpa using hk)
 have h56:w6.heap[b4+1]?=some (.cells #[.complex .f64 X Y] 37 (0,0)):=by rw[hw6];exact heap_setCell_same w5 (b4+1) 0 _ _ _ h55
 have h46:=(far6 b4 (by omega)).trans h45
 have h66:=(far6 (b4+2) (by omega)).trans h65
 have hm6:=(far6 w2.heap.size (by omega)).trans hm5
 have HB6:Hid (Below b4 w5 w6):=aA (by rw[hw6];exact⟨rfl,rfl,rfl,by simp[World.setCell],fun k hk=>(Below.heap_setCell _ ⟨b4+1,0,none⟩ _ k (by simp only;omega))⟩)
 clear hw6 far6 h45 h55 h65 hm5
 refine hKK _ _ ⟨⟨w6,hm6⟩,rfl⟩ (fun x=>∃y:Calm.OnB w2.heap.size w3,x=y.1) (fun _ h=>h) ⟨⟨w6,hm6⟩,rfl⟩ ?_
 refine wpQuiet_nil ?_
 intro KK hKK
 try rw[if_pos (by rfl)]
 have c6:=cell_of_row w6 (b4+2) 0 _ _ _ h66
 have f6:=frozen_of_row w6 (b4+2) 0 _ _ h66
 go_wp2_with fail
 clear c6 f6
 obtain⟨w7,hw7⟩:∃x,x=w6.setCell ⟨b4+2,0,none⟩ (.int .i64 e):=⟨_,rfl⟩
 rw[←hw7]
 have far7:∀k,k≠b4+2→w7.heap[k]?=w6.heap[k]?:=fun k hk=>by
  rw[hw7];exact Below.heap_setCell _ ⟨b4+2,0,none⟩ _ k (by simpa using hk)
 have h67:w7.heap[b4+2]?=some (.cells #[.int .i64 e] 30 (0,0)):=by rw[hw7];exact heap_setCell_same w6 (b4+2) 0 _ _ _ h66
 have h47:=(far7 b4 (by omega)).trans h46
 have h57:=(far7 (b4+1) (by omega)).trans h56
 have hm7:=(far7 w2.heap.size (by omega)).trans hm6
 have HB7:Hid (Below b4 w6 w7):=aA (by rw[hw7];exact⟨rfl,rfl,rfl,by simp[World.setCell],fun k hk=>(Below.heap_setCell _ ⟨b4+2,0,none⟩ _ k (by simp only;omega))⟩)
 clear hw7 far7 h46 h56 h66 hm6
 refine hKK _ _ ⟨⟨w7,hm7⟩,rfl⟩ (fun x=>∃y:Calm.OnB w2.heap.size w3,x=y.1) (fun _ h=>h) ⟨⟨w7,hm7⟩,rfl⟩ ?_
 refine wpQuiet_nil ?_
 have HQ:=aA (((HB4.out.trans HB5.out).trans HB6.out).trans HB7.out)
 clear HB4 HB5 HB6 HB7 HB
 exact⟨rfl,_,rfl,.tuple #[],by simp[results,Tryz.results83],rfl,rfl,HQ.out,h47,h57,h67⟩
theorem zcu {w w1 w2:World} {R:Nat} (h1:w.grownBy w1 .none) (h2:w1.grownBy w2 (some R)) (hR:w.heap.size≤R):Below w.heap.size w w2 :=
 ⟨h2.os.trans h1.os,h2.tape.trans h1.tape,h2.output.trans h1.output,Nat.le_trans h1.size h2.size,fun k hk=>(h2.block k (Nat.lt_of_lt_of_le hk h1.size) (fun e=>by injection e with e;omega)).trans (h1.block k hk (by simp))⟩
theorem bI.less {L:List Int} {w:World} {base base':Nat} {v:Value} {ds:List Y.Dcl} (h:bI L w base v ds) (hb:base'≤base):bI L w base' v ds:=by
 obtain⟨qs,h1,h2,h3⟩:=h
 refine⟨qs,h1,⟨h2.1,?_⟩,fun q hq=>(h3 q hq).less hb⟩
 rcases h2.2 with h0|⟨g,cap,cur,e,hb1,hr⟩
 ·exact .inl h0
 ·exact .inr ⟨g,cap,cur,e,by omega,hr⟩
theorem aL {B g i:Nat} {a w:World} (h:Below B a w) (u:Value) (hg:B≤g):Below B a (w.setCell ⟨g,i,none⟩ u) :=
 ⟨h.os,h.tape,h.output,by simpa[World.setCell] using h.size,fun k hk=>(Below.heap_setCell w ⟨g,i,none⟩ u k (by simp only;omega)).trans (h.block k hk)⟩
def zlo (L:List Int) (px py:Nat) (w:World) (res:Y.Res (List Y.Dcl×List Y.Prd)) (e:Ending) (w':World):Prop :=
 Below w.heap.size w w'∧match res with
  | .ok s _=>∃dv pv,e=.returned (.tuple #[.agg #[dv,pv],.complex .f64 0 0,.int .i64 0])∧bI L w' w.heap.size dv s.1∧bG L w' w.heap.size pv s.2
  | .bad none=>e=.returned (.tuple #[.agg #[.slice none 0 0,.slice none 0 0],.complex .f64 px py,.int .i64 4])
  | .bad (some t)=>e=.returned (.tuple #[.agg #[.slice none 0 0,.slice none 0 0],.complex .f64 (Fl.fl (Pl.pos (L.take t.o)).1) (Fl.fl (Pl.pos (L.take t.o)).2),.int .i64 3])
theorem zk2 (L:List Int) (A:Option Addr) (c px py:Nat) (ts:List Tok) (w:World) (hr:RdT L w w.heap.size A ts) (hc:ts.length≤c) (hn:ts.length≤4000) :
  Calls Tryz.prog 55 #[.slice A ts.length c,.complex .f64 px py] w (zlo L px py w (Y.source ts)):=by
 have hmf:∀(fn:Fn) (first cap:Array Value) (w:World),(Instr.makeFunc fn first cap).run Tryz.prog w=.ok (.func fn first cap) w:=fun _ _ _ _=>rfl
 have SC:=fun a w m X Y=>show(store a (.complex .f64 X Y) m).run Tryz.prog w=stored Tryz.prog w a (.complex .f64 X Y) m from run_store _ w a _ m rfl
 have HSR:=aA (fun(x:World) (R:Nat) (h:Rdr L w.heap.size R px py x ts)=>zf9 L w.heap.size R px py ts x h)
 have HR:=aA hr
 clear hr
 rcases hs:Y.source ts with⟨s,r⟩|p
 ·rw[hs]at HSR
  clear hs
  go_enter_defers Tryz.func55,Tryz.ntmps55
  go_wp2_with fail
  obtain⟨w1,hw1⟩:∃x,x=(((w.alloc (.cells #[.slice none 0 0,.slice none 0 0] 60)).alloc (.cells #[.complex .f64 0 0] 37)).alloc (.cells #[.int .i64 0] 30)).alloc (.cells #[.slice A ts.length c,.complex .f64 px py] 128):=⟨_,rfl⟩
  rw[←hw1]
  have hg1:w.grownBy w1 .none:=by rw[hw1];exact aC (aC (aC (aC (World.grownBy.refl _ _) _) _) _) _
  have e1:∀k o,k=w.heap.size→o=(Obj.cells #[.slice none 0 0,.slice none 0 0] 60 (0,0))→w1.heap[k]?=some o:=by
   rintro _ _ rfl rfl
   rw[hw1,Below.heap_alloc _ _ _ (by simp;omega),Below.heap_alloc _ _ _ (by simp;omega),Below.heap_alloc _ _ _ (by simp)];exact heap_alloc_new w _
  have e2:w1.heap[w.heap.size+1]?=some (.cells #[.complex .f64 0 0] 37 (0,0)):=by
   rw[hw1,Below.heap_alloc _ _ _ (by simp),Below.heap_alloc _ _ _ (by simp)]
   have:=heap_alloc_new (w.alloc (.cells #[.slice none 0 0,.slice none 0 0] 60)) (.cells #[.complex .f64 0 0] 37)
   simpa using this
  have e3:w1.heap[w.heap.size+2]?=some (.cells #[.int .i64 0] 30 (0,0)):=by
   rw[hw1,Below.heap_alloc _ _ _ (by simp)]
   have:=heap_alloc_new ((w.alloc (.cells #[.slice none 0 0,.slice none 0 0] 60)).alloc (.cells #[.complex .f64 0 0] 37)) (.cells #[.int .i64 0] 30)
   simpa using this
  have e4:w1.heap[w.heap.size+3]?=some (.cells #[.slice A ts.length c,.complex .f64 px py] 128 (0,0)):=by
   rw[hw1]
   have:=heap_alloc_new (((w.alloc (.cells #[.slice none 0 0,.slice none 0 0] 60)).alloc (.cells #[.complex .f64 0 0] 37)).alloc (.cells #[.int .i64 0] 30)) (.cells #[.slice A ts.length c,.complex .f64 px py] 128)
   simpa using this
  have HRD:Rdr L w.heap.size (w.heap.size+3) px py w1 ts:=⟨A,c,e4,hc,hn,HR.out.grown hg1 (fun _ e=>by cases e) (Nat.le_refl _),by omega⟩
  have e1:=e1 _ _ rfl rfl
  have hsz1:w.heap.size+3<w1.heap.size:=(Array.getElem?_eq_some_iff.1 e4).1
  clear hw1 e4
  refine(HSR.out _ _ HRD).mono ?_;rintro _ w2 ⟨hg2,v,rfl,hrd2,dv,pv,rfl,hod,hop⟩
  have d1:=aK hg2 e1 (by omega)
  have d2:=aK hg2 e2 (by omega)
  have d3:=aK hg2 e3 (by omega)
  have HG2:=aA (zcu hg1 hg2 (by omega))
  have hle:=hg1.size
  have HOD:=aA (hod.less hle)
  have HOP:=aA (hop.less hle)
  obtain⟨DA,DC,rfl,_,_⟩:=hod.form
  obtain⟨PA',PC,rfl,_,_⟩:=hop.form
  have c40:=cell_of_row w2 _ 0 _ _ _ d1
  have c41:=cell_of_row w2 _ 1 _ _ _ d1
  have c5:=cell_of_row w2 _ 0 _ _ _ d2
  have c6:=cell_of_row w2 _ 0 _ _ _ d3
  have f40:=frozen_of_row w2 _ 0 _ _ d1
  have f41:=frozen_of_row w2 _ 1 _ _ d1
  have f5:=frozen_of_row w2 _ 0 _ _ d2
  have f6:=frozen_of_row w2 _ 0 _ _ d3
  have HX1:=aA (zac d1 (by decide))
  have HX2:=aA (zac d2 (by decide))
  have HX3:=aA (zac d3 (by decide))
  have HD1:=aA d1
  have HD2:=aA d2
  have HD3:=aA d3
  clear e1 e2 e3 d1 d2 d3 hg1 hg2 hrd2 hod hop HRD HSR
  go_wp2_with fail
  obtain⟨w3,hw3⟩:∃x,x=(((w2.setCell ⟨w.heap.size,0,none⟩ (.slice DA s.1.length DC)).setCell ⟨w.heap.size,1,none⟩ (.slice PA' s.2.length PC)).setCell ⟨w.heap.size+1,0,none⟩ (.complex .f64 0 0)).setCell ⟨w.heap.size+1+1,0,none⟩ (.int .i64 0):=⟨_,rfl⟩
  rw[←hw3]
  have far3:∀k,k≠w.heap.size→k≠w.heap.size+1→k≠w.heap.size+2→w3.heap[k]?=w2.heap[k]?:=fun k k1 k2 k3=>by
   rw[hw3]
   exact(Below.heap_setCell _ ⟨w.heap.size+1+1,0,none⟩ _ k (by simpa using k3)).trans ((Below.heap_setCell _ ⟨w.heap.size+1,0,none⟩ _ k (by simpa using k2)).trans ((Below.heap_setCell _ ⟨w.heap.size,1,none⟩ _ k (by simpa using k1)).trans (Below.heap_setCell _ ⟨w.heap.size,0,none⟩ _ k (by simpa using k1))))
  have g1:w3.heap[w.heap.size]?=some (.cells #[.slice DA s.1.length DC,.slice PA' s.2.length PC] 60 (0,0)):=by
   rw[hw3]
   exact(Below.heap_setCell _ ⟨w.heap.size+1+1,0,none⟩ _ w.heap.size (by simp only;omega)).trans ((Below.heap_setCell _ ⟨w.heap.size+1,0,none⟩ _ w.heap.size (by simp only;omega)).trans (zjL HD1.out _ _))
  have g2:w3.heap[w.heap.size+1]?=some (.cells #[.complex .f64 0 0] 37 (0,0)):=by
   rw[hw3]
   refine(Below.heap_setCell _ ⟨w.heap.size+1+1,0,none⟩ _ _ (by simp)).trans ?_
   exact heap_setCell_same _ (w.heap.size+1) 0 _ _ _ ((Below.heap_setCell _ ⟨w.heap.size,1,none⟩ _ _ (by simp)).trans ((Below.heap_setCell _ ⟨w.heap.size,0,none⟩ _ _ (by simp)).trans HD2.out))
  have g3:w3.heap[w.heap.size+1+1]?=some (.cells #[.int .i64 0] 30 (0,0)):=by
   rw[hw3]
   exact heap_setCell_same _ (w.heap.size+1+1) 0 _ _ _ ((Below.heap_setCell _ ⟨w.heap.size+1,0,none⟩ _ _ (by simp)).trans ((Below.heap_setCell _ ⟨w.heap.size,1,none⟩ _ _ (by simp only;omega)).trans ((Below.heap_setCell _ ⟨w.heap.size,0,none⟩ _ _ (by simp only;omega)).trans HD3.out)))
  have HG3:Hid (Below w.heap.size w w3):=aA (by rw[hw3];exact aL (aL (aL (aL HG2.out _ (Nat.le_refl _)) _ (Nat.le_refl _)) _ (by omega)) _ (by omega))
  have hk3:∀(v:Value) (base n size:Nat) (e:TypeId) (xs:List Value),w2.ownsRow base e size v n xs→e≠60→e≠37→e≠30→w3.ownsRow base e size v n xs:=by
   intro v base n size e xs h n1 n2 n3
   refine⟨h.1,?_⟩
   rcases h.2 with h0|⟨g,cap,cur,rfl,hb1,hh,hr⟩
   ·exact .inl h0
   ·refine .inr ⟨g,cap,cur,rfl,hb1,(far3 g ?_ ?_ ?_).trans hh,hr⟩
    ·rintro rfl;rw[HD1.out]at hh;injection hh with q;injection q with _ q;exact n1 q.symm
    ·rintro rfl;rw[HD2.out]at hh;injection hh with q;injection q with _ q;exact n2 q.symm
    ·rintro rfl;rw[HD3.out]at hh;injection hh with q;injection q with _ q;exact n3 q.symm
  have hkr:∀(B:Nat) (A:Option Addr) (xs:List Tok),RdR L w2 B A xs→RdR L w3 B A xs:=by
   intro B A xs h h0
   obtain⟨g,cur,e,hB,hh,hc⟩:=h h0
   refine⟨g,cur,e,hB,(far3 g ?_ ?_ ?_).trans hh,hc⟩
   ·rintro rfl;rw[HD1.out]at hh;injection hh with q;injection q with _ q;exact absurd q (by decide)
   ·rintro rfl;rw[HD2.out]at hh;injection hh with q;injection q with _ q;exact absurd q (by decide)
   ·rintro rfl;rw[HD3.out]at hh;injection hh with q;injection q with _ q;exact absurd q (by decide)
  have HOD3:Hid (bI L w3 w.heap.size (.slice DA s.1.length DC) s.1):=aA (by
   obtain⟨qs,h1,h2,h3⟩:=HOD.out
   exact⟨qs,h1,hk3 _ _ _ _ _ _ h2 (by decide) (by decide) (by decide),fun q hq=>hkr _ _ _ (h3 q hq)⟩)
  have HOP3:Hid (bG L w3 w.heap.size (.slice PA' s.2.length PC) s.2):=aA (by
   obtain⟨qs,h1,h2,h3⟩:=HOP.out
   exact⟨qs,h1,hk3 _ _ _ _ _ _ h2 (by decide) (by decide) (by decide),fun q hq=>hkr _ _ _ (h3 q hq)⟩)
  clear hw3 far3 hk3 hkr c40 c41 c5 c6 f40 f41 f5 f6 HG2 HOD HOP HD1 HD2 HD3 HX1 HX2 HX3
  refine leaves_cons (f:=83) (args:=#[.pointer (some ⟨w.heap.size,0,none⟩),.pointer (some ⟨w.heap.size+1,0,none⟩),.pointer (some ⟨w.heap.size+1+1,0,none⟩)]) (by simp) (by simp[go_sem]) ?_
  refine(zgL _ _ _ _).mono ?_
  rintro _ _ w4 ⟨rfl,rfl,hb4⟩
  have i1:=(hb4.block w.heap.size (Array.getElem?_eq_some_iff.1 g1).1).trans g1
  have i2:=(hb4.block _ (Array.getElem?_eq_some_iff.1 g2).1).trans g2
  have i3:=(hb4.block _ (Array.getElem?_eq_some_iff.1 g3).1).trans g3
  have c40:=cell_of_row w4 _ 0 _ _ _ i1
  have c41:=cell_of_row w4 _ 1 _ _ _ i1
  have c5:=cell_of_row w4 _ 0 _ _ _ i2
  have c6:=cell_of_row w4 _ 0 _ _ _ i3
  refine⟨.tuple #[.agg #[.slice DA s.1.length DC,.slice PA' s.2.length PC],.complex .f64 0 0,.int .i64 0],by simp[results,Tryz.results55,go_sem,c40,c41,c5,c6],HG3.out.trans (hb4.mono HG3.out.size),_,_,rfl,HOD3.out.grown (aQ hb4 .none) (bM.none _ _),HOP3.out.grown (aQ hb4 .none) (bM.none _ _)⟩
 ·rw[hs]at HSR
  clear hs
  rcases p with _|t
  ·go_enter_defers Tryz.func55,Tryz.ntmps55
   go_wp2_with fail
   obtain⟨w1,hw1⟩:∃x,x=(((w.alloc (.cells #[.slice none 0 0,.slice none 0 0] 60)).alloc (.cells #[.complex .f64 0 0] 37)).alloc (.cells #[.int .i64 0] 30)).alloc (.cells #[.slice A ts.length c,.complex .f64 px py] 128):=⟨_,rfl⟩
   rw[←hw1]
   have hg1:w.grownBy w1 .none:=by rw[hw1];exact aC (aC (aC (aC (World.grownBy.refl _ _) _) _) _) _
   have e1:∀k o,k=w.heap.size→o=(Obj.cells #[.slice none 0 0,.slice none 0 0] 60 (0,0))→w1.heap[k]?=some o:=by
    rintro _ _ rfl rfl
    rw[hw1,Below.heap_alloc _ _ _ (by simp;omega),Below.heap_alloc _ _ _ (by simp;omega),Below.heap_alloc _ _ _ (by simp)];exact heap_alloc_new w _
   have e2:w1.heap[w.heap.size+1]?=some (.cells #[.complex .f64 0 0] 37 (0,0)):=by
    rw[hw1,Below.heap_alloc _ _ _ (by simp),Below.heap_alloc _ _ _ (by simp)]
    have:=heap_alloc_new (w.alloc (.cells #[.slice none 0 0,.slice none 0 0] 60)) (.cells #[.complex .f64 0 0] 37)
    simpa using this
   have e3:w1.heap[w.heap.size+2]?=some (.cells #[.int .i64 0] 30 (0,0)):=by
    rw[hw1,Below.heap_alloc _ _ _ (by simp)]
    have:=heap_alloc_new ((w.alloc (.cells #[.slice none 0 0,.slice none 0 0] 60)).alloc (.cells #[.complex .f64 0 0] 37)) (.cells #[.int .i64 0] 30)
    simpa using this
   have e4:w1.heap[w.heap.size+3]?=some (.cells #[.slice A ts.length c,.complex .f64 px py] 128 (0,0)):=by
    rw[hw1]
    have:=heap_alloc_new (((w.alloc (.cells #[.slice none 0 0,.slice none 0 0] 60)).alloc (.cells #[.complex .f64 0 0] 37)).alloc (.cells #[.int .i64 0] 30)) (.cells #[.slice A ts.length c,.complex .f64 px py] 128)
    simpa using this
   have HRD:Rdr L w.heap.size (w.heap.size+3) px py w1 ts:=⟨A,c,e4,hc,hn,HR.out.grown hg1 (fun _ e=>by cases e) (Nat.le_refl _),by omega⟩
   have e1:=e1 _ _ rfl rfl
   have hsz1:w.heap.size+3<w1.heap.size:=(Array.getElem?_eq_some_iff.1 e4).1
   clear hw1 e4
   refine(HSR.out _ _ HRD).mono ?_;rintro _ w2 ⟨hg2,rfl⟩
   have d1:=aK hg2 e1 (by omega)
   have d2:=aK hg2 e2 (by omega)
   have d3:=aK hg2 e3 (by omega)
   have HG2:=aA (zcu hg1 hg2 (by omega))
   clear e1 e2 e3 hg1 hg2 HRD HSR hsz1
   unfold zkz
   refine leaves_cons (f:=83) (args:=#[.pointer (some ⟨w.heap.size,0,none⟩),.pointer (some ⟨w.heap.size+1,0,none⟩),.pointer (some ⟨w.heap.size+1+1,0,none⟩)]) (by simp) (by simp[go_sem]) ?_
   refine(zcE w.heap.size px py 4 (by decide) _ _ _ _ [] _ d1 d2 d3).mono ?_
   rintro _ _ w4 ⟨rfl,rfl,hb4,i1,i2,i3⟩
   have c40:=cell_of_row w4 _ 0 _ _ _ i1
   have c41:=cell_of_row w4 _ 1 _ _ _ i1
   have c5:=cell_of_row w4 _ 0 _ _ _ i2
   have c6:w4.cell? ⟨w.heap.size+1+1,0,none⟩=some (.int .i64 4):=by rw[cell_of_row w4 _ 0 _ _ _ i3];rfl
   exact⟨.tuple #[.agg #[.slice none 0 0,.slice none 0 0],.complex .f64 px py,.int .i64 4],by simp[results,Tryz.results55,go_sem,c40,c41,c5,c6],HG2.out.trans hb4,rfl⟩
  ·go_enter_defers Tryz.func55,Tryz.ntmps55
   go_wp2_with fail
   obtain⟨w1,hw1⟩:∃x,x=(((w.alloc (.cells #[.slice none 0 0,.slice none 0 0] 60)).alloc (.cells #[.complex .f64 0 0] 37)).alloc (.cells #[.int .i64 0] 30)).alloc (.cells #[.slice A ts.length c,.complex .f64 px py] 128):=⟨_,rfl⟩
   rw[←hw1]
   have hg1:w.grownBy w1 .none:=by rw[hw1];exact aC (aC (aC (aC (World.grownBy.refl _ _) _) _) _) _
   have e1:∀k o,k=w.heap.size→o=(Obj.cells #[.slice none 0 0,.slice none 0 0] 60 (0,0))→w1.heap[k]?=some o:=by
    rintro _ _ rfl rfl
    rw[hw1,Below.heap_alloc _ _ _ (by simp;omega),Below.heap_alloc _ _ _ (by simp;omega),Below.heap_alloc _ _ _ (by simp)];exact heap_alloc_new w _
   have e2:w1.heap[w.heap.size+1]?=some (.cells #[.complex .f64 0 0] 37 (0,0)):=by
    rw[hw1,Below.heap_alloc _ _ _ (by simp),Below.heap_alloc _ _ _ (by simp)]
    have:=heap_alloc_new (w.alloc (.cells #[.slice none 0 0,.slice none 0 0] 60)) (.cells #[.complex .f64 0 0] 37)
    simpa using this
   have e3:w1.heap[w.heap.size+2]?=some (.cells #[.int .i64 0] 30 (0,0)):=by
    rw[hw1,Below.heap_alloc _ _ _ (by simp)]
    have:=heap_alloc_new ((w.alloc (.cells #[.slice none 0 0,.slice none 0 0] 60)).alloc (.cells #[.complex .f64 0 0] 37)) (.cells #[.int .i64 0] 30)
    simpa using this
   have e4:w1.heap[w.heap.size+3]?=some (.cells #[.slice A ts.length c,.complex .f64 px py] 128 (0,0)):=by
    rw[hw1]
    have:=heap_alloc_new (((w.alloc (.cells #[.slice none 0 0,.slice none 0 0] 60)).alloc (.cells #[.complex .f64 0 0] 37)).alloc (.cells #[.int .i64 0] 30)) (.cells #[.slice A ts.length c,.complex .f64 px py] 128)
    simpa using this
   have HRD:Rdr L w.heap.size (w.heap.size+3) px py w1 ts:=⟨A,c,e4,hc,hn,HR.out.grown hg1 (fun _ e=>by cases e) (Nat.le_refl _),by omega⟩
   have e1:=e1 _ _ rfl rfl
   have hsz1:w.heap.size+3<w1.heap.size:=(Array.getElem?_eq_some_iff.1 e4).1
   clear hw1 e4
   refine(HSR.out _ _ HRD).mono ?_;rintro _ w2 ⟨hg2,rfl⟩
   have d1:=aK hg2 e1 (by omega)
   have d2:=aK hg2 e2 (by omega)
   have d3:=aK hg2 e3 (by omega)
   have HG2:=aA (zcu hg1 hg2 (by omega))
   clear e1 e2 e3 hg1 hg2 HRD HSR hsz1
   unfold zkz
   refine leaves_cons (f:=83) (args:=#[.pointer (some ⟨w.heap.size,0,none⟩),.pointer (some ⟨w.heap.size+1,0,none⟩),.pointer (some ⟨w.heap.size+1+1,0,none⟩)]) (by simp) (by simp[go_sem]) ?_
   refine(zcE w.heap.size (Fl.fl (Pl.pos (L.take t.o)).1) (Fl.fl (Pl.pos (L.take t.o)).2) 3 (by decide) _ _ _ _ [] _ d1 d2 d3).mono ?_
   rintro _ _ w4 ⟨rfl,rfl,hb4,i1,i2,i3⟩
   have c40:=cell_of_row w4 _ 0 _ _ _ i1
   have c41:=cell_of_row w4 _ 1 _ _ _ i1
   have c5:=cell_of_row w4 _ 0 _ _ _ i2
   have c6:w4.cell? ⟨w.heap.size+1+1,0,none⟩=some (.int .i64 3):=by rw[cell_of_row w4 _ 0 _ _ _ i3];rfl
   exact⟨.tuple #[.agg #[.slice none 0 0,.slice none 0 0],.complex .f64 (Fl.fl (Pl.pos (L.take t.o)).1) (Fl.fl (Pl.pos (L.take t.o)).2),.int .i64 3],by simp[results,Tryz.results55,go_sem,c40,c41,c5,c6],HG2.out.trans hb4,rfl⟩
def zaJ (L:List Int) (w:World) (r:Out) (e:Ending) (w':World):Prop :=
 match r with
 | .ok xs=>zlo L (Fl.fl (Pl.pos L).1) (Fl.fl (Pl.pos L).2) w (Y.source xs) e w'
 | .bad o d=>Below w.heap.size w w'∧e=.returned (.tuple #[.agg #[.slice none 0 0,.slice none 0 0],.complex .f64 (Fl.fl (Pl.pos (L.take o)).1) (Fl.fl (Pl.pos (L.take o)).2),.int .i64 d])
end Go.Proofs.YtkfelkpilaipnaaGreatDoor
namespace Go.Proofs.YtkfelkpilaipnaaGreatDoor
set_option maxRecDepth 100000
set_option maxHeartbeats 40000000
structure Stands (L:List Int) (x:Tok):Prop where
 o:x.o<L.length
 len:x.t.length≤L.length-x.o
 text:(L.drop x.o).take x.t.length=x.t
 name:(x.k==1)=T.isName x.t
 lit:(x.k==2)=T.isLit x.t
 bytes:K.Bytes x.t
theorem zf8 (L:List Int) (hL:K.Bytes L) (k:Nat) (hk:k<L.length) (x:T.P3) (hf:T.Fine (L.drop k) x) (he:x.2.2=0):Stands L ⟨x.1,aW x.1 ((L.drop k).take x.2.1),k⟩:=by
 obtain⟨xk,xn,xe⟩:=x
 obtain⟨h1,_,_,_,_,_⟩:=hf
 obtain⟨h2,h3,h4,h5⟩:=h1 he
 simp only at h2 h3 h4 h5
 rw[List.length_drop]at h3
 have hlen:((L.drop k).take xn).length=xn:=by rw[List.length_take,List.length_drop];omega
 by_cases hk1:xk=1
 ·subst hk1
  have hn:=h4 rfl
  have e:aW 1 ((L.drop k).take xn)=(L.drop k).take xn:=by simp[aW]
  refine⟨hk,?_,?_,?_,?_,?_⟩
  ·simp only;rw[e,hlen];exact h3
  ·simp only;rw[e,hlen]
  ·simp only;rw[e,hn];rfl
  ·simp only;rw[e,T.name_lit _ hn];rfl
  ·simp only;rw[e];exact(hL.drop k).take xn
 ·by_cases hk2:xk=2
  ·subst hk2
   have hn:=h5 rfl
   have e:aW 2 ((L.drop k).take xn)=(L.drop k).take xn:=by simp[aW]
   have hnn:T.isName ((L.drop k).take xn)=false:=by
    rcases hq:T.isName ((L.drop k).take xn) with _|_
    ·rfl
    ·have:=T.name_lit _ hq;rw[hn]at this;cases this
   refine⟨hk,?_,?_,?_,?_,?_⟩
   ·simp only;rw[e,hlen];exact h3
   ·simp only;rw[e,hlen]
   ·simp only;rw[e,hnn];rfl
   ·simp only;rw[e,hn];rfl
   ·simp only;rw[e];exact(hL.drop k).take xn
  ·have e:aW xk ((L.drop k).take xn)=[]:=by unfold aW;rw[if_neg (by omega)]
   refine⟨hk,?_,?_,?_,?_,?_⟩
   ·simp only;rw[e];simp
   ·simp only;rw[e];simp
   ·simp only;rw[e,beq_eq_false_iff_ne.2 hk1];rfl
   ·simp only;rw[e,beq_eq_false_iff_ne.2 hk2];rfl
   ·simp only;rw[e];exact K.Bytes.nil
def zgV (L:List Int) (k:Nat) (xs:List Tok):Prop:=(∀x∈xs,Stands L x∧x.o<k)∧xs.Pairwise (fun a b=>a.o<b.o)
theorem zd4 (L:List Int) (hL:K.Bytes L):∀(f k m:Nat) (acc xs:List Tok),k≤L.length→zgV L k acc→zdR f (L.drop k) k m acc=.ok xs→zgV L L.length xs
 | 0,k,m,acc,xs,hk,hr,h=>by
  injection h with h
  subst h
  exact⟨fun x hx=>⟨(hr.1 x hx).1,(hr.1 x hx).1.o⟩,hr.2⟩
 | f+1,k,m,acc,xs,hk,hr,h=>by
  by_cases he:(L.drop k).length=0∨m=2
  ·rw[zbt _ _ _ _ _ he]at h
   injection h with h
   subst h
   exact⟨fun x hx=>⟨(hr.1 x hx).1,(hr.1 x hx).1.o⟩,hr.2⟩
  ·have hlt:k<L.length:=by rw[List.length_drop]at he;omega
   have hf:=T.piece_fine (L.drop k) (by rw[List.length_drop];omega) (hL.drop k)
   by_cases hb:(T.piece (L.drop k)).2.2=0
   ·rw[zbB _ _ _ _ _ he hb]at h
    obtain⟨hn1,hn2,_,_⟩:=hf.1 hb
    rw[List.length_drop]at hn2
    rw[List.drop_drop]at h
    refine zd4 L hL f _ _ _ xs (by omega) ?_ h
    unfold more
    split
    ·exact⟨fun x hx=>⟨(hr.1 x hx).1,by have:=(hr.1 x hx).2;omega⟩,hr.2⟩
    ·refine⟨fun x hx=>?_,?_⟩
     ·rcases List.mem_append.1 hx with h1|h1
      ·exact⟨(hr.1 x h1).1,by have:=(hr.1 x h1).2;omega⟩
      ·rw[List.mem_singleton]at h1
       subst h1
       exact⟨zf8 L hL k hlt _ hf hb,by simp only;omega⟩
     ·rw[List.pairwise_append]
      refine⟨hr.2,List.pairwise_singleton _ _,fun a ha b hb'=>?_⟩
      rw[List.mem_singleton]at hb'
      subst hb'
      exact(hr.1 a ha).2
   ·rw[zbX _ _ _ _ _ he hb]at h
    cases h
theorem zbo (L:List Int) (hL:K.Bytes L) (xs:List Tok) (h:zdV L=.ok xs):zgV L L.length xs :=
 zd4 L hL _ 0 0 [] xs (Nat.zero_le _) ⟨fun x hx=>by simp at hx,List.Pairwise.nil⟩ (by simpa[zdV] using h)
theorem zhi:∀(f:Nat) (l:List Int) (k m:Nat) (acc:List Tok) (o:Nat) (d:Int),zdR f l k m acc=.bad o d→d≠0
 | 0,_,_,_,_,_,_,h=>by cases h
 | f+1,l,k,m,acc,o,d,h=>by
  by_cases he:l.length=0∨m=2
  ·rw[zbt _ _ _ _ _ he]at h;cases h
  ·by_cases hb:(T.piece l).2.2=0
   ·rw[zbB _ _ _ _ _ he hb]at h;exact zhi f _ _ _ _ _ _ h
   ·rw[zbX _ _ _ _ _ he hb]at h
    injection h with _ h
    exact h▸hb
theorem zeN (L:List Int) (o:Nat) (d:Int) (h:zdV L=.bad o d):d≠0:=zhi _ _ _ _ _ _ _ h
theorem zgV.lt {L:List Int} {k:Nat} {xs:List Tok} (h:zgV L k xs) (i j:Nat) (hij:i<j) (hj:j<xs.length):xs[i].o<xs[j].o :=
 List.pairwise_iff_getElem.1 h.2 i j (by omega) hj hij
theorem zgV.at {L:List Int} {k:Nat} {xs:List Tok} (h:zgV L k xs) (i:Nat) (hi:i<xs.length):Stands L xs[i]:=(h.1 _ (List.getElem_mem hi)).1
theorem zgV.ge {L:List Int} {k:Nat} {xs:List Tok} (h:zgV L k xs):∀(i:Nat) (hi:i<xs.length),i≤xs[i].o
 | 0,_=>Nat.zero_le _
 | i+1,hi=>by
  have h1:=h.ge i (by omega)
  have h2:=h.lt i (i+1) (by omega) hi
  omega
theorem zgV.count {L:List Int} {k:Nat} {xs:List Tok} (h:zgV L k xs):xs.length≤L.length:=by
 rcases Nat.eq_zero_or_pos xs.length with h0|h0
 ·omega
 ·have h1:=h.ge (xs.length-1) (by omega)
  have h2:=(h.at (xs.length-1) (by omega)).o
  omega
end Go.Proofs.YtkfelkpilaipnaaGreatDoor
namespace Go.Proofs.YtkfelkpilaipnaaGreatDoor
set_option maxRecDepth 100000
set_option maxHeartbeats 40000000
open Go.RowKit
theorem zhF (A:Option Addr) (c:Nat) (L:List Int) (w:World) (hr:RdB w w.heap.size A L) (hl:K.Bytes L) (hc:L.length≤c) (hn:L.length≤4000) (hm:ML w) :
  Calls Tryz.prog 30 #[.slice A L.length c] w (zaJ L w (zdV L)):=by
 have SC:=fun a w m X Y=>show(store a (.complex .f64 X Y) m).run Tryz.prog w=stored Tryz.prog w a (.complex .f64 X Y) m from run_store _ w a _ m rfl
 have HT:=aA (fun(w1:World) (h1:Below w.heap.size w w1)=>ziI A c L w1 (hr.up h1) hl hc hn (hm.up h1))
 have HB0:=aA (fun o=>((Below.refl w.heap.size w).alloc (Nat.le_refl _) o))
 have HRI:=aA (zbo L hl)
 clear hr hl hc hm
 rcases hR:zdV L with xs|⟨o,d⟩
 ·rw[hR]at HT
  have hxs:xs.length≤4000:=by have:=(HRI.out xs hR).count;omega
  clear hR HRI
  have HOF:=aA (fun(w1:World) (A':Option Addr) (c':Nat) (h1:RdT L w1 w1.heap.size A' xs) (h2:xs.length≤c')=>zk2 L A' c' (Fl.fl (Pl.pos L).1) (Fl.fl (Pl.pos L).2) xs w1 h1 h2 hxs)
  go_enter Tryz.func30,Tryz.ntmps30
  go_wp2_with fail
  refine(HT.out _ (HB0.out _)).mono ?_;rintro _ w2 ⟨v,rfl,ho,hb⟩
  obtain⟨A',c',rfl,hxc,_,hrd⟩:=ho.rd
  have h2:w2.heap[w.heap.size]?=some (.cells #[.slice none 0 0,.slice none 0 0] 60 (0,0)):=(hb.block w.heap.size (by simp)).trans (heap_alloc_new w _)
  have HB2:=aA ((HB0.out (.cells #[.slice none 0 0,.slice none 0 0] 60)).trans (hb.mono (HB0.out _).size))
  have HO2:=aA (HOF.out w2 A' c' hrd hxc)
  clear ho hb HT HB0 HOF hrd hxc
  rcases hs:Y.source xs with⟨s,r⟩|p
  ·rw[hs]at HO2
   go_wp2_with fail
   refine HO2.out.mono ?_;rintro _ w3 ⟨hb3,dv,pv,rfl,hod,hop⟩
   have h3:=(hb3.block w.heap.size (Array.getElem?_eq_some_iff.1 h2).1).trans h2
   have c0:=cell_of_row w3 _ 0 _ _ _ h3
   have c1:=cell_of_row w3 _ 1 _ _ _ h3
   have f0:=frozen_of_row w3 _ 0 _ _ h3
   have f1:=frozen_of_row w3 _ 1 _ _ h3
   have HB3:=aA (HB2.out.trans (hb3.mono HB2.out.size))
   have HX:=aA (zac h3 (by decide))
   obtain⟨DA,DC,rfl,_,_⟩:=hod.form
   obtain⟨PA',PC,rfl,_,_⟩:=hop.form
   have HWD:Hid (bI L ((w3.setCell ⟨w.heap.size,0,none⟩ (.slice DA s.1.length DC)).setCell ⟨w.heap.size,1,none⟩ (.slice PA' s.2.length PC)) w.heap.size (.slice DA s.1.length DC) s.1):=aA (by
    obtain⟨zs,hz⟩:=hod.own
    exact(hod.less HB2.out.size).grown (aD (aD (World.grownBy.refl _ _) _ _) _ _) ⟨HX.out,.inr (zbl hz h3 (by decide))⟩)
   have HWP:Hid (bG L ((w3.setCell ⟨w.heap.size,0,none⟩ (.slice DA s.1.length DC)).setCell ⟨w.heap.size,1,none⟩ (.slice PA' s.2.length PC)) w.heap.size (.slice PA' s.2.length PC) s.2):=aA (by
    obtain⟨zs,hz⟩:=hop.own
    exact(hop.less HB2.out.size).grown (aD (aD (World.grownBy.refl _ _) _ _) _ _) ⟨HX.out,.inr (zbl hz h3 (by decide))⟩)
   clear hod hop hb3 HO2 h2 h3
   go_wp2
   refine bodyPost_ret (v:=.tuple #[.agg #[.slice DA s.1.length DC,.slice PA' s.2.length PC],.complex .f64 0 0,.int .i64 0]) (by simp[results,Tryz.results30,go_sem,c0,c1]) rfl ?_
   unfold zaJ
   simp only
   rw[hs]
   exact⟨aL (aL HB3.out _ (Nat.le_refl _)) _ (Nat.le_refl _),_,_,rfl,HWD.out,HWP.out⟩
  ·rw[hs]at HO2
   rcases p with _|t
   ·go_wp2_with fail
    refine HO2.out.mono ?_;rintro _ w3 ⟨hb3,rfl⟩
    have h3:=(hb3.block w.heap.size (Array.getElem?_eq_some_iff.1 h2).1).trans h2
    have c0:=cell_of_row w3 _ 0 _ _ _ h3
    have c1:=cell_of_row w3 _ 1 _ _ _ h3
    have f0:=frozen_of_row w3 _ 0 _ _ h3
    have f1:=frozen_of_row w3 _ 1 _ _ h3
    have HB3:=aA (HB2.out.trans (hb3.mono HB2.out.size))
    clear hb3 HO2 h2 h3
    go_wp2
    refine bodyPost_ret (v:=.tuple #[.agg #[.slice none 0 0,.slice none 0 0],.complex .f64 (Fl.fl (Pl.pos L).1) (Fl.fl (Pl.pos L).2),.int .i64 4]) (by simp[results,Tryz.results30,go_sem,c0,c1]) rfl ?_
    unfold zaJ
    simp only
    rw[hs]
    exact⟨aL (aL HB3.out _ (Nat.le_refl _)) _ (Nat.le_refl _),rfl⟩
   ·go_wp2_with fail
    refine HO2.out.mono ?_;rintro _ w3 ⟨hb3,rfl⟩
    have h3:=(hb3.block w.heap.size (Array.getElem?_eq_some_iff.1 h2).1).trans h2
    have c0:=cell_of_row w3 _ 0 _ _ _ h3
    have c1:=cell_of_row w3 _ 1 _ _ _ h3
    have f0:=frozen_of_row w3 _ 0 _ _ h3
    have f1:=frozen_of_row w3 _ 1 _ _ h3
    have HB3:=aA (HB2.out.trans (hb3.mono HB2.out.size))
    clear hb3 HO2 h2 h3
    go_wp2
    refine bodyPost_ret (v:=.tuple #[.agg #[.slice none 0 0,.slice none 0 0],.complex .f64 (Fl.fl (Pl.pos (L.take t.o)).1) (Fl.fl (Pl.pos (L.take t.o)).2),.int .i64 3]) (by simp[results,Tryz.results30,go_sem,c0,c1]) rfl ?_
    unfold zaJ
    simp only
    rw[hs]
    exact⟨aL (aL HB3.out _ (Nat.le_refl _)) _ (Nat.le_refl _),rfl⟩
 ·rw[hR]at HT
  have hd0:(d==0)=false:=by simpa using zeN L o d hR
  clear hR HRI
  go_enter Tryz.func30,Tryz.ntmps30
  go_wp2_with fail
  refine(HT.out _ (HB0.out _)).mono ?_;rintro _ w2 ⟨rfl,hb⟩
  have h2:w2.heap[w.heap.size]?=some (.cells #[.slice none 0 0,.slice none 0 0] 60 (0,0)):=(hb.block w.heap.size (by simp)).trans (heap_alloc_new w _)
  have HB2:=aA ((HB0.out (.cells #[.slice none 0 0,.slice none 0 0] 60)).trans (hb.mono (HB0.out _).size))
  have c0:=cell_of_row w2 _ 0 _ _ _ h2
  have c1:=cell_of_row w2 _ 1 _ _ _ h2
  have f0:=frozen_of_row w2 _ 0 _ _ h2
  have f1:=frozen_of_row w2 _ 1 _ _ h2
  clear hb h2 HT HB0
  go_wp2
  exact bodyPost_ret (v:=.tuple #[.agg #[.slice none 0 0,.slice none 0 0],.complex .f64 (Fl.fl (Pl.pos (L.take o)).1) (Fl.fl (Pl.pos (L.take o)).2),.int .i64 d]) (by simp[results,Tryz.results30,go_sem,c0,c1]) rfl ⟨aL (aL HB2.out _ (Nat.le_refl _)) _ (Nat.le_refl _),rfl⟩
theorem zbf (w:World) (A:Option Addr) (c n i j:Nat) (h1:i≤j) (h2:j≤c):(Instr.sliceAt 40 (.slice A n c) (some (.int .i64 i)) (some (.int .i64 j)) none).run Tryz.prog w=.ok (.slice (dropA A c i) (j-i) (c-i)) w:=by
 rw[run_sliceAt_slice _ _ _ _ _ _ (by kernel_rfl),run_slice_lh _ _ _ _ _ (by kernel_rfl) .i64 .i64 (i:Int) (j:Int) (by omega) (by omega) (by omega)]
 have hs:(sizeOf (Tryz.prog.elem 40)).run Tryz.prog w=.ok 1 w:=by kernel_rfl
 rw[hs]
 simp[Result.andThen,sliced,dropA]
namespace T
theorem str_list (l:List Int):(K.str l).toList=Lib.bytesOf l:=by
 rw[ByteArray.toList_eq];rfl
theorem pre_take (l s:List Int):pre l s=((K.str (l.take s.length)).toList==(K.str s).toList):=by
 rw[str_list,str_list]
 have e:Lib.bytesOf (l.take s.length)=(Lib.bytesOf l).take (Lib.bytesOf s).length:=by simp[Lib.bytesOf,List.map_take]
 rw[e]
 unfold pre Lib.hasPrefix
 rw[Bool.eq_iff_iff,List.isPrefixOf_iff_prefix,beq_iff_eq,List.prefix_iff_eq_take,eq_comm]
theorem pre_short (l s:List Int) (h:l.length<s.length):pre l s=false:=by
 rcases hp:pre l s with _|_
 ·rfl
 ·have:=pre_len l s hp;omega
theorem ix_cons (z:Int) (r s:List Int):ix (z::r) s=if pre (z::r) s then 0 else if ix r s<0 then -1 else ix r s+1:=by
 unfold ix pre Lib.hasPrefix
 rw[show Lib.bytesOf (z::r)=UInt8.ofNat z.toNat::Lib.bytesOf r from rfl,Lib.index]
 have:=Lib.index_ge (Lib.bytesOf r) (Lib.bytesOf s)
 split
 ·rfl
 ·by_cases h:Lib.index (Lib.bytesOf r) (Lib.bytesOf s) = -1
  ·rw[h];simp
  ·have h1:(Lib.index (Lib.bytesOf r) (Lib.bytesOf s) == -1)=false:=by simpa using h
   rw[h1]
   simp only[Bool.false_eq_true,if_false]
   rw[if_neg (by omega)]
theorem ix_nil (s:List Int) (h:s.length≠0):ix [] s = -1:=by
 cases s with
 | nil=>simp at h
 | cons a b=>rfl
theorem ix_next (l s:List Int) (k:Nat) (h:k<l.length):ix (l.drop k) s=if pre (l.drop k) s then 0 else if ix (l.drop (k+1)) s<0 then -1 else ix (l.drop (k+1)) s+1:=by
 rw[L.cons_drop l k h,ix_cons]
end T
theorem zaS (A:Option Addr) (c B:Nat) (l s:List Int) (k:Nat) (w:World) (hr:RdB w B A l) (hl:K.Bytes l) (hc:l.length≤c) (hn:l.length≤5000) (hk:k≤l.length) (hs:s.length≤5000) :
  Calls Tryz.prog 126 #[.slice A l.length c,.int .i64 k,.string (K.str s)] w fun e w'=>e=.returned (.bool (T.pre (l.drop k) s))∧w=w':=by
 have hsz:=K.str_size s
 by_cases h:k+s.length≤l.length
 ·have hp:=T.pre_take (l.drop k) s
  have C1:=zaH (((hr.dropA hc k).take s.length)) ((hl.drop k).take s.length) (c-k)
  have S1:=fun w=>zbf w A c l.length k (k+s.length) (by omega) (by omega)
  rw[List.length_take,List.length_drop,Nat.min_eq_left (by omega)]at C1
  rw[show k+s.length-k=s.length by omega]at S1
  have hsz2:(k:Int)+((K.str s).size:Int)=((k+s.length:Nat):Int):=by rw[hsz];omega
  have h1:((k+s.length:Nat):Int)≤(l.length:Int):=by omega
  have HP:=aA hp
  clear hp hsz hr hl hk hs hc
  generalize T.pre (l.drop k) s=pb at *
  generalize K.str (List.take s.length (List.drop k l))=st at *
  generalize K.str s=s2 at *
  generalize k+s.length=m at *
  generalize dropA A c k=D at *
  generalize c-k=c2 at *
  generalize s.length=sl at *
  go_enter Tryz.func126,Tryz.ntmps126
  go_wp2_with (first|simp only[S1]|simp only[C1])
  go_ret
  exact⟨aG HP.out.symm,rfl⟩
 ·rw[T.pre_short (l.drop k) s (by rw[List.length_drop];omega)]
  have h1:¬(k:Int)+((K.str s).size:Int)≤(l.length:Int):=by rw[hsz];omega
  have h2:(k:Int)+((K.str s).size:Int)≤20000:=by rw[hsz];omega
  have h3:0≤(k:Int)+((K.str s).size:Int):=by omega
  clear hr hl hk hs hc hsz
  generalize K.str s=s2 at *
  go_enter Tryz.func126,Tryz.ntmps126
  go_wp2
  go_ret
  exact⟨rfl,rfl⟩
def T.pastV (l s:List Int) (k:Nat):Int:=if T.ix (l.drop k) s<0 then -1 else k+T.ix (l.drop k) s+s.length
theorem T.pastV_on (l s:List Int) (k:Nat) (h:k<l.length) (hp:T.pre (l.drop k) s=false):T.pastV l s k=T.pastV l s (k+1):=by
 unfold T.pastV
 have hx:=T.ix_next l s k h
 rw[hp]at hx
 simp only[Bool.false_eq_true,if_false]at hx
 have hg:=T.ix_ge (l.drop (k+1)) s
 by_cases h1:T.ix (l.drop (k+1)) s<0
 ·rw[if_pos h1]at hx
  rw[if_pos (by omega),if_pos h1]
 ·rw[if_neg h1]at hx
  rw[if_neg (by omega),if_neg h1,hx]
  simp only[Int.natCast_add]
  omega
theorem T.pastV_here (l s:List Int) (k:Nat) (h:k<l.length) (hp:T.pre (l.drop k) s=true):T.pastV l s k=k+s.length:=by
 unfold T.pastV
 have hx:=T.ix_next l s k h
 rw[hp,if_pos rfl]at hx
 rw[hx];simp
theorem T.pastV_end (l s:List Int) (k:Nat) (h:l.length≤k) (hs:s.length≠0):T.pastV l s k = -1:=by
 unfold T.pastV
 rw[List.drop_eq_nil_of_le h,T.ix_nil s hs];rfl
theorem zcj (A:Option Addr) (c B:Nat) (l s:List Int) (k:Nat) (w:World) (hr:RdB w B A l) (hl:K.Bytes l) (hc:l.length≤c) (hn:l.length≤5000) (hk:k≤6000) (hs:s.length≤5000) (hs0:s.length≠0) :
  Calls Tryz.prog 127 #[.slice A l.length c,.int .i64 k,.string (K.str s)] w fun e w'=>e=.returned (.int .i64 (T.pastV l s k))∧w=w':=by
 have HP:=aA (fun(j:Nat) (h:j≤l.length)=>zaS A c B l s j w hr hl hc hn h hs)
 have hsz:=aA (K.str_size s)
 have HE:=aA (fun j h=>T.pastV_end l s j h hs0)
 have HH:=aA (T.pastV_here l s)
 have HO:=aA (T.pastV_on l s)
 clear hr hl hc hs0
 go_enter Tryz.func127,Tryz.ntmps127
 go_wp2
 go_loop [1] (fun vi=>∃(j:Nat),j≤6000∧vi=.int .i64 j∧T.pastV l s j=T.pastV l s k) (fun vi=>6001-(intOf vi).toNat)
 case atStart=>exact⟨k,hk,rfl,rfl⟩
 case round =>
  obtain⟨j,hj,rfl,he⟩:=hrel
  have HV:=aA he
  clear he
  by_cases hlt:j<l.length
  ·have HPj:=aA (HP.out j (by omega))
   rcases hb:T.pre (l.drop j) s with _|_
   ·rw[hb]at HPj
    have HN:=aA (HO.out j hlt hb)
    clear hb HP HE HH HO
    go_wp2_with fail
    refine HPj.out.mono ?_;rintro _ w' ⟨rfl,rfl⟩
    go_wp2
    go_round
    case rel=>exact⟨j+1,by omega,by go_num,by rw[←HV.out,HN.out]⟩
    case measure=>simp[intOf];omega
   ·rw[hb]at HPj
    have HN:=aA (HH.out j hlt hb)
    clear hb HP HE HH HO
    have hsz2:=hsz.out
    have hb1:(j:Int)+((K.str s).size:Int)≤20000:=by rw[hsz2];omega
    have HZ:=aA hsz2
    clear hsz2 hsz
    generalize K.str s=s2 at *
    go_wp2_with fail
    refine HPj.out.mono ?_;rintro _ w' ⟨rfl,rfl⟩
    go_wp2
    go_ret
    exact⟨zah (by rw[←HV.out,HN.out,HZ.out]),rfl⟩
  ·have HN:=aA (HE.out j (by omega))
   clear HP HE HH HO
   go_wp2
   go_ret
   exact⟨zah (by rw[←HV.out,HN.out]),rfl⟩
theorem T.line_cons (z:Int) (r:List Int) (hb:K.Bytes (z::r)):T.line (z::r)=if z=10 then [] else z::T.line r:=by
 have hp:T.pre (z::r) [10]=decide (z=10):=by
  unfold T.pre Lib.hasPrefix
  simp only[Lib.bytesOf,List.map_cons,List.map_nil,List.isPrefixOf,Bool.and_true]
  have:=hb.hd
  rw[Bool.eq_iff_iff,decide_eq_true_iff,beq_iff_eq]
  constructor
  ·intro h
   have:=congrArg UInt8.toNat h
   simp at this
   omega
  ·rintro rfl;rfl
 have hx:=T.ix_cons z r [10]
 have hg:=T.ix_ge r [10]
 rw[hp]at hx
 unfold T.line
 by_cases h:z=10
 ·rw[if_pos h]
  rw[decide_eq_true h,if_pos rfl]at hx
  rw[hx];rfl
 ·rw[if_neg h]
  rw[decide_eq_false h,if_neg (by simp)]at hx
  by_cases h1:T.ix r [10]<0
  ·rw[if_pos h1]at hx
   rw[if_neg (by omega),if_neg (by omega)]
  ·rw[if_neg h1]at hx
   rw[if_pos (by omega),if_pos (by omega),hx]
   rw[show(T.ix r [10]+1).toNat=(T.ix r [10]).toNat+1 by omega];rfl
theorem zd7 (A:Option Addr) (c B:Nat) (l:List Int) (k:Nat) (w:World) (hr:RdB w B A l) (hl:K.Bytes l) (hn:l.length≤5000) (hk:k≤l.length) :
  Calls Tryz.prog 128 #[.slice A l.length c,.int .i64 k] w fun e w'=>e=.returned (.int .i64 ((k+(T.line (l.drop k)).length:Nat):Int))∧w=w':=by
 go_enter Tryz.func128,Tryz.ntmps128
 go_wp2
 go_loop [1] (fun vi=>∃(j:Nat),j≤l.length∧vi=.int .i64 j∧j+(T.line (l.drop j)).length=k+(T.line (l.drop k)).length) (fun vi=>l.length-(intOf vi).toNat)
 case atStart=>exact⟨k,hk,rfl,rfl⟩
 case round =>
  obtain⟨j,hj,rfl,he⟩:=hrel
  have HV:=aA he
  clear he
  by_cases hlt:j<l.length
  ·obtain⟨g,o,rfl,_,hcl⟩:=hr (by omega)
   have hcell:=hcl j (by omega)
   have hcd:=L.cons_drop l j hlt
   have hlc:=T.line_cons (l.getD j 0) (l.drop (j+1)) (hcd▸hl.drop j)
   rw[←hcd]at hlc
   have HL:=aA hlc
   clear hcl hr hl hcd hlc
   generalize l.getD j 0=z at *
   by_cases h10:z=10
   ·subst h10
    go_wp2
    go_ret
    exact⟨zah (by have h:=HV.out;have h2:=HL.out;simp only[if_true]at h2;rw[h2]at h;simp at h;omega),rfl⟩
   ·have h11:(z==10)=false:=by simpa using h10
    have HN:=aA h10
    clear h10
    go_wp2
    go_round
    case rel=>exact⟨j+1,by omega,by go_num,by rw[←HV.out,HL.out,if_neg HN.out];simp;omega⟩
    case measure=>simp[intOf];omega
  ·obtain rfl:j=l.length:=by omega
   clear hr hl
   go_wp2
   go_ret
   exact⟨zah (by have h:=HV.out;rw[List.drop_length,show T.line []=[] from rfl]at h;simp at h;omega),rfl⟩
def T.quoV (q:Int) (l:List Int) (k:Nat):Int:=match T.quoted q (l.drop k) with|none=>-1|some n=>k+n
theorem T.quoted_nil (q:Int):T.quoted q []=none:=by simp[T.quoted]
theorem T.quoV_end (q:Int) (l:List Int) (k:Nat) (h:l.length≤k):T.quoV q l k = -1:=by
 unfold T.quoV
 rw[List.drop_eq_nil_of_le h,T.quoted_nil]
theorem T.quoV_here (q:Int) (l:List Int) (k:Nat) (h:k<l.length) (hq:l.getD k 0=q):T.quoV q l k=k+1:=by
 unfold T.quoV
 rw[L.cons_drop l k h,hq]
 have:T.quoted q (q::l.drop (k+1))=some 1:=by unfold T.quoted;rw[if_pos rfl]
 rw[this];rfl
theorem T.quoV_on (q:Int) (l:List Int) (k:Nat) (h:k<l.length) (hq:¬l.getD k 0=q) (h92:¬l.getD k 0=92):T.quoV q l k=T.quoV q l (k+1):=by
 unfold T.quoV
 rw[L.cons_drop l k h]
 have:T.quoted q (l.getD k 0::l.drop (k+1))=(T.quoted q (l.drop (k+1))).map (· + 1):=by
  generalize l.drop (k+1)=r
  cases r with
  | nil =>
   rw[T.quoted_nil]
   have h1:T.quoted q [l.getD k 0]=none:=by
    generalize l.getD k 0=z at *
    simp[T.quoted,hq,h92]
   rw[h1];rfl
  | cons a b=>rw[T.quoted,if_neg hq,if_neg h92]
 rw[this]
 cases T.quoted q (l.drop (k+1)) with
 | none=>rfl
 | some n=>simp only[Option.map_some];omega
theorem T.quoV_two (q:Int) (l:List Int) (k:Nat) (h:k<l.length) (hq:¬l.getD k 0=q) (h92:l.getD k 0=92):T.quoV q l k=T.quoV q l (k+2):=by
 unfold T.quoV
 rw[L.cons_drop l k h]
 by_cases h2:k+1<l.length
 ·rw[L.cons_drop l (k+1) h2]
  have:T.quoted q (l.getD k 0::l.getD (k+1) 0::l.drop (k+1+1))=(T.quoted q (l.drop (k+2))).map (· + 2):=by
   rw[T.quoted,if_neg hq,if_pos h92]
  rw[this]
  cases T.quoted q (l.drop (k+2)) with
  | none=>rfl
  | some n=>simp only[Option.map_some];omega
 ·rw[List.drop_eq_nil_of_le (by omega:l.length≤k+1),List.drop_eq_nil_of_le (by omega:l.length≤k+2),T.quoted_nil]
  have:T.quoted q [l.getD k 0]=none:=by rw[T.quoted,if_neg hq,if_pos h92]
  rw[this]
theorem zeT (A:Option Addr) (c B:Nat) (l:List Int) (k:Nat) (w:World) (hr:RdB w B A l) (hn:l.length≤5000) (hk:k<l.length) :
  Calls Tryz.prog 162 #[.slice A l.length c,.int .i64 k] w fun e w'=>e=.returned (.int .i64 (T.quoV (l.getD k 0) l (k+1)))∧w=w':=by
 obtain⟨g,o,rfl,_,hcl⟩:=hr (by omega)
 have hcell0:=hcl k hk
 have HE:=aA (T.quoV_end (l.getD k 0) l)
 have HH:=aA (T.quoV_here (l.getD k 0) l)
 have HO:=aA (T.quoV_on (l.getD k 0) l)
 have HT:=aA (T.quoV_two (l.getD k 0) l)
 have HC:=aA hcl
 clear hcl hr
 generalize l.getD k 0=q at *
 go_enter Tryz.func162,Tryz.ntmps162
 go_wp2
 go_loop [1] (fun vi=>∃(j:Nat),j≤l.length+1∧vi=.int .i64 j∧T.quoV q l j=T.quoV q l (k+1)) (fun vi=>l.length+2-(intOf vi).toNat)
 case atStart=>exact⟨k+1,by omega,by go_num,rfl⟩
 case round =>
  clear hcell0
  obtain⟨j,hj,rfl,he⟩:=hrel
  have HV:=aA he
  clear he
  by_cases hlt:j<l.length
  ·have hcell:=HC.out j hlt
   by_cases hz:l.getD j 0=q
   ·have HN:=aA (HH.out j hlt hz)
    have hz':(l.getD j 0==q)=true:=by simpa using hz
    clear hz HE HH HO HT HC
    generalize l.getD j 0=z at *
    go_wp2
    go_ret
    exact⟨zah (by rw[←HV.out,HN.out]),rfl⟩
   ·have hz':(l.getD j 0==q)=false:=by simpa using hz
    by_cases h92:l.getD j 0=92
    ·have HN:=aA (HT.out j hlt hz h92)
     have h92':(l.getD j 0==92)=true:=by simpa using h92
     clear hz h92 HE HH HO HT HC
     generalize l.getD j 0=z at *
     go_wp2
     go_round
     case rel=>exact⟨j+2,by omega,by go_num,by rw[←HV.out,HN.out]⟩
     case measure=>simp[intOf];omega
    ·have HN:=aA (HO.out j hlt hz h92)
     have h92':(l.getD j 0==92)=false:=by simpa using h92
     clear hz h92 HE HH HO HT HC
     generalize l.getD j 0=z at *
     go_wp2
     go_round
     case rel=>exact⟨j+1,by omega,by go_num,by rw[←HV.out,HN.out]⟩
     case measure=>simp[intOf];omega
  ·have HN:=aA (HE.out j (by omega))
   clear HE HH HO HT HC
   go_wp2
   go_ret
   exact⟨zah (by rw[←HV.out,HN.out]),rfl⟩
theorem T.act_quo {f:Nat} {z:Int} {r:List Int} {o:Int} {m:Nat} (h:T.act f (z::r) o=some m) (hz:z=39∨z=34):∃f' q m',T.quoted z r=some q∧T.act f' (r.drop q) o=some m'∧m=m'+(q+1):=by
 cases f with
 | zero=>simp[T.act]at h
 | succ f =>
  rw[T.act]at h
  rw[if_pos hz]at h
  split at h
  ·cases h
  ·rename_i q hq
   rw[Option.map_eq_some_iff]at h
   obtain⟨m',h1,h2⟩:=h
   exact⟨f,q,m',hq,h1,h2.symm⟩
theorem T.act_on {f:Nat} {z:Int} {r:List Int} {o:Int} {m:Nat} (h:T.act f (z::r) o=some m) (hz:¬(z=39∨z=34)) (ho:0<T.ostep z o):∃f' m',T.act f' r (T.ostep z o)=some m'∧m=m'+1:=by
 cases f with
 | zero=>simp[T.act]at h
 | succ f =>
  rw[T.act]at h
  rw[if_neg hz,if_pos ho,Option.map_eq_some_iff]at h
  obtain⟨m',h1,h2⟩:=h
  exact⟨f,m',h1,h2.symm⟩
theorem T.act_end {f:Nat} {z:Int} {r:List Int} {o:Int} {m:Nat} (h:T.act f (z::r) o=some m) (hz:¬(z=39∨z=34)) (ho:¬0<T.ostep z o):m=1:=by
 cases f with
 | zero=>simp[T.act]at h
 | succ f =>
  rw[T.act]at h
  rw[if_neg hz,if_neg ho]at h
  exact(Option.some.inj h).symm
theorem T.act_nil {f:Nat} {o:Int} {m:Nat} (h:T.act f [] o=some m):False:=by
 cases f with
 | zero=>simp[T.act]at h
 | succ f=>rw[T.act]at h;cases h
theorem zeW (A:Option Addr) (c B:Nat) (l:List Int) (k n f0:Nat) (w:World) (hr:RdB w B A l) (hn:l.length≤5000) (hk:k<l.length) (hz:l.getD k 0=123) (ha:T.act f0 (l.drop k) 0=some n) :
  Calls Tryz.prog 129 #[.slice A l.length c,.int .i64 k] w fun e w'=>e=.returned (.int .i64 ((k+n:Nat):Int))∧w=w':=by
 have HQ:=aA (fun(j:Nat) (h:j<l.length)=>zeT A c B l j w hr hn h)
 have HA:=aA ha
 have HZ:=aA hz
 clear ha hz
 go_enter Tryz.func129,Tryz.ntmps129
 go_wp2
 go_loop [1,5] (fun vi vo=>∃(j f m:Nat) (o:Int),j≤l.length∧vi=.int .i64 j∧vo=.int .i64 o∧0≤o∧o+k≤j∧T.act f (l.drop j) o=some m∧j+m=k+n∧(o=0→l.getD j 0=123)) (fun vi _=>l.length-(intOf vi).toNat)
 case atStart=>exact⟨k,f0,n,0,by omega,rfl,rfl,by omega,by omega,HA.out,rfl,fun _=>HZ.out⟩
 case round =>
  clear HA HZ
  obtain⟨j,f,m,o,hj,rfl,rfl,ho,hok,hact,hm,h123⟩:=hrel
  have HM:=aA hm
  clear hm
  by_cases hlt:j<l.length
  ·obtain⟨g,o',rfl,_,hcl⟩:=hr (by omega)
   have hcell:=hcl j hlt
   have HQj:=aA (HQ.out j hlt)
   rw[L.cons_drop l j hlt]at hact
   have HACT:=aA hact
   clear hact HQ hcl hr
   have HD:Hid (∀q,(l.drop (j+1)).drop q=l.drop (j+1+q)):=aA (fun q=>by rw[List.drop_drop])
   by_cases hq:l.getD j 0=39∨l.getD j 0=34
   ·obtain⟨f',q,m',h1,h2,h3⟩:=T.act_quo HACT.out hq
    have hql:=T.quoted_le _ _ _ h1
    rw[List.length_drop]at hql
    have hv:T.quoV (l.getD j 0) l (j+1)=((j+1+q:Nat):Int):=by unfold T.quoV;rw[h1];simp only;omega
    rw[hv]at HQj
    rw[HD.out]at h2
    have H2:=aA h2
    have H3:=aA h3
    have ho1:¬o=0:=fun e=>by have:=h123 e;omega
    have ho2:(o==0)=false:=by simpa using ho1
    clear h1 h2 h3 hv HACT h123
    have hqq:(l.getD j 0==123)=false∧(l.getD j 0==125)=false:=by
     rcases hq with e|e <;> rw[e] <;> exact⟨rfl,rfl⟩
    obtain⟨q1,q2⟩:=hqq
    have hpos:0≤((j+1+q:Nat):Int):=by omega
    have hle:j+1+q≤l.length:=by omega
    rcases hq with hq|hq
    ·have q3:(l.getD j 0==39)=true:=by rw[hq];rfl
     clear hq
     generalize l.getD j 0=z at *
     generalize hx:j+1+q=x at *
     have HX:=aA hx
     clear hx
     go_wp2_with fail
     refine HQj.out.mono ?_;rintro _ w' ⟨rfl,rfl⟩
     go_wp2
     go_round
     case rel=>exact⟨x,f',m',o,by omega,rfl,rfl,ho,by have:=HX.out;omega,H2.out,by have:=H3.out;have:=HM.out;have:=HX.out;omega,fun e=>absurd e ho1⟩
     case measure=>have:=HX.out;simp[intOf];omega
    ·have q3:(l.getD j 0==39)=false:=by rw[hq];rfl
     have q4:(l.getD j 0==34)=true:=by rw[hq];rfl
     clear hq
     generalize l.getD j 0=z at *
     generalize hx:j+1+q=x at *
     have HX:=aA hx
     clear hx
     go_wp2_with fail
     refine HQj.out.mono ?_;rintro _ w' ⟨rfl,rfl⟩
     go_wp2
     go_round
     case rel=>exact⟨x,f',m',o,by omega,rfl,rfl,ho,by have:=HX.out;omega,H2.out,by have:=H3.out;have:=HM.out;have:=HX.out;omega,fun e=>absurd e ho1⟩
     case measure=>have:=HX.out;simp[intOf];omega
   ·have q3:(l.getD j 0==39)=false:=by simpa using fun e=>hq (.inl e)
    have q4:(l.getD j 0==34)=false:=by simpa using fun e=>hq (.inr e)
    have HON:=aA (T.act_on HACT.out hq)
    have HEN:=aA (T.act_end HACT.out hq)
    clear HACT hq HQj HD
    by_cases h1:l.getD j 0=123
    ·have q1:(l.getD j 0==123)=true:=by rw[h1];rfl
     have hs:T.ostep (l.getD j 0) o=o+1:=by unfold T.ostep;rw[if_pos h1]
     obtain⟨f',m',h2,h3⟩:=HON.out (by rw[hs];omega)
     rw[hs]at h2
     have H2:=aA h2
     have H3:=aA h3
     clear HON HEN h1 hs h2 h3 h123
     have ho2:(o+1==0)=false:=by rw[beq_eq_false_iff_ne];omega
     generalize l.getD j 0=z at *
     go_wp2
     go_round
     case rel=>exact⟨j+1,f',m',o+1,by omega,by go_num,by go_num,by omega,by omega,H2.out,by have:=H3.out;have:=HM.out;omega,fun e=>by omega⟩
     case measure=>simp[intOf];omega
    ·have q1:(l.getD j 0==123)=false:=by simpa using h1
     have ho1:¬o=0:=fun e=>h1 (h123 e)
     by_cases h5:l.getD j 0=125
     ·have q2:(l.getD j 0==125)=true:=by rw[h5];rfl
      have hs:T.ostep (l.getD j 0) o=o-1:=by unfold T.ostep;rw[if_neg h1,if_pos h5]
      by_cases h0:0<o-1
      ·obtain⟨f',m',h2,h3⟩:=HON.out (by rw[hs];omega)
       rw[hs]at h2
       have H2:=aA h2
       have H3:=aA h3
       clear HON HEN h1 h5 hs h2 h3 h123
       have ho2:(o-1==0)=false:=by rw[beq_eq_false_iff_ne];omega
       generalize l.getD j 0=z at *
       go_wp2
       go_round
       case rel=>exact⟨j+1,f',m',o-1,by omega,by go_num,by go_num,by omega,by omega,H2.out,by have:=H3.out;have:=HM.out;omega,fun e=>by omega⟩
       case measure=>simp[intOf];omega
      ·have hm1:=HEN.out (by rw[hs];omega)
       have H3:=aA hm1
       have ho3:o=1:=by omega
       subst ho3
       clear HON HEN h1 h5 hs hm1 h123 h0 ho1
       generalize l.getD j 0=z at *
       go_wp2
       go_ret
       exact⟨zah (by have:=HM.out;have:=H3.out;omega),rfl⟩
     ·have q2:(l.getD j 0==125)=false:=by simpa using h5
      have hs:T.ostep (l.getD j 0) o=o:=by unfold T.ostep;rw[if_neg h1,if_neg h5]
      obtain⟨f',m',h2,h3⟩:=HON.out (by rw[hs];omega)
      rw[hs]at h2
      have H2:=aA h2
      have H3:=aA h3
      clear HON HEN h1 h5 hs h2 h3 h123
      have ho2:(o==0)=false:=by simpa using ho1
      generalize l.getD j 0=z at *
      go_wp2
      go_round
      case rel=>exact⟨j+1,f',m',o,by omega,by go_num,rfl,by omega,by omega,H2.out,by have:=H3.out;have:=HM.out;omega,fun e=>absurd e ho1⟩
      case measure=>simp[intOf];omega
  ·exfalso
   rw[List.drop_eq_nil_of_le (by omega)]at hact
   exact T.act_nil hact
theorem bI.at {L:List Int} {w:World} {base:Nat} {v:Value} {ds:List Y.Dcl} (h:bI L w base v ds) (i:Nat) (hi:i<ds.length):∃D c A c',v=.slice (some ⟨D,0,none⟩) ds.length c∧w.cell? ⟨D,i*2,none⟩=some (.int .i64 ds[i].k)∧w.cell? ⟨D,i*2+1,none⟩=some (.slice A ds[i].ns.length c')∧RdR L w base A ds[i].ns:=by
 obtain⟨qs,rfl,h2,h3⟩:=h
 have hi':i<qs.length:=by simpa using hi
 rcases h2.2 with⟨_,h0⟩|⟨g,cap,cur,rfl,_⟩
 ·omega
 ·refine⟨g,cap,qs[i].2.1,qs[i].2.2,rfl,?_,?_,?_⟩
  ·have:=World.ownsRow.cells h2 (g:=g) rfl (i*2+0) _ (by rw[zim qs i 0 hi' (by omega)];rfl)
   rw[zdP,Nat.zero_add]at this
   simpa using this
  ·have:=World.ownsRow.cells h2 (g:=g) rfl (i*2+1) _ (by rw[zim qs i 1 hi' (by omega)];rfl)
   rw[zdP,Nat.zero_add]at this
   simpa using this
  ·have:=h3 qs[i] (List.getElem_mem hi')
   simpa using this
theorem bG.at {L:List Int} {w:World} {base:Nat} {v:Value} {ps:List Y.Prd} (h:bG L w base v ps) (i:Nat) (hi:i<ps.length):∃D c A c',v=.slice (some ⟨D,0,none⟩) ps.length c∧(∀j u,j<5→(aX L ps[i] A c')[j]?=some u→w.cell? ⟨D,i*5+j,none⟩=some u)∧RdR L w base A ps[i].r:=by
 obtain⟨qs,rfl,h2,h3⟩:=h
 have hi':i<qs.length:=by simpa using hi
 rcases h2.2 with⟨_,h0⟩|⟨g,cap,cur,rfl,_⟩
 ·omega
 ·refine⟨g,cap,qs[i].2.1,qs[i].2.2,rfl,fun j u hj hu=>?_,?_⟩
  ·have:=World.ownsRow.cells h2 (g:=g) rfl (i*5+j) u (by rw[zko L qs i j hi' hj];simpa using hu)
   rw[zdP,Nat.zero_add]at this
   exact this
  ·have:=h3 qs[i] (List.getElem_mem hi')
   simpa using this
namespace Y
theorem flat_take (ds:List Dcl) (i:Nat) (hi:i<ds.length):(ds.take (i+1)).flatMap Dcl.refs=(ds.take i).flatMap Dcl.refs++ds[i].ns:=by
 rw[List.take_succ_eq_append_getElem hi,List.flatMap_append]
 simp[Dcl.refs]
end Y
end Go.Proofs.YtkfelkpilaipnaaGreatDoor
