/- Part of the proofs over this program: TrimR, TrimD, TrimK, AutoL, TrimM, AutoB, FirstL, LookL, FirstN, FirstP, LookR, CycleL, MapX, AutoP, AutoQ, AutoC. -/
import Derived.WideKeyEntry
import Derived.Test.YtcmhaemaophplaaGreatKB
namespace Go.Proofs.YtcmhaemaophplaaGreat
set_option maxRecDepth 100000
set_option maxHeartbeats 40000000
open Go.RowKit
namespace Gm
theorem Gn.lin {tm:Bool} {rs:List Rl} {n:Nat} (hl:Lin n rs) {j:Int} (h:Gn tm rs j):0<=j/\j<n:=by
 obtain⟨x,hx,rfl,_⟩:=h.rule;exact hl x hx
theorem zcz {tm:Bool} {rs:List Rl} {n:Nat} (hl:Lin n rs) {j:Int} (h0:0<=j):(gn tm rs n).getD j.toNat false=true↔Gn tm rs j:=by
 constructor
 ·intro h;rcases Nat.lt_or_ge j.toNat n with h1|h1
  ·rw[gn_at _ _ _ _ h1,tr_iff,Int.toNat_of_nonneg h0]at h;exact h
  ·rw[List.getD_eq_getElem?_getD,List.getElem?_eq_none (by rw[gn_len];omega)]at h;cases h
 ·intro h
  have:=h.lin hl
  rw[gn_at _ _ _ _ (by omega),tr_iff,Int.toNat_of_nonneg h0];exact h
theorem allB_gn {tm:Bool} {rs:List Rl} {n:Nat} (hl:Lin n rs) (r:List Int):allB tm (gn tm rs n) r=true↔Al tm rs r:=by
 constructor
 ·intro e;unfold allB at e;rw[List.all_eq_true]at e;refine⟨fun z hz h0=>?_,fun z hz h0=>?_⟩
  ·have:=e z hz;rwa [if_pos h0]at this
  ·have:=e z hz
   rw[if_neg (by omega)]at this;exact(zcz hl (by omega)).1 this
 ·intro h;unfold allB;rw[List.all_eq_true];intro z hz;by_cases h0:0<=z
  ·rw[if_pos h0];exact h.1 z hz h0
  ·rw[if_neg h0];exact(zcz hl (by omega)).2 (h.2 z hz (by omega))
def Sin (n:Nat) (r:List Int):Prop:=∀z∈r,z<0->-1-z<(n:Int)
def zj7 (G:Gr) (is:List Bool):Prop:=∀i:Nat,is.getD i false=true->Rc G (i:Int)
def ClsR (G:Gr) (is:List Bool):Prop:=is.getD G.st.toNat false=true/\∀x∈G.rs,is.getD x.l.toNat false=true->Al true G.rs x.r->∀z∈x.r,z<0->is.getD (-1-z).toNat false=true
theorem zkr {G:Gr} {is:List Bool} (h:ClsR G is) {j:Int} (hj:Rc G j):is.getD j.toNat false=true:=by
 induction hj with
 | st=>exact h.1
 | on x hx _ hp z hz hn ih=>exact h.2 x hx ih hp z hz hn
theorem rc_row {G:Gr} {is:List Bool} (hn:is.length=G.ns.length) (hs:zj7 G is) (hc:ClsR G is):is=rc G:=by
 refine List.ext_getElem (by rw[hn,rc_len]) fun i h1 h2=>?_;have e1:is.getD i false=is[i]:=by simp[List.getD_eq_getElem?_getD,h1]
 have e2:(rc G).getD i false=(rc G)[i]:=by simp[List.getD_eq_getElem?_getD,h2]
 rw[<-e1,<-e2,rc_at _ _ (by omega)];rw[Bool.eq_iff_iff,tr_iff];refine⟨hs i,fun h=>?_⟩
 have:=zkr hc h
 simpa using this
def zdB (s:List Bool) (z:Int):List Bool:=if z<0 then s.set (-1-z).toNat true else s
def zh6 (s:List Bool) (r:List Int):List Bool:=r.foldl zdB s
theorem zeI (s:List Bool) (z:Int):Le s (zdB s z):=by
 unfold zdB;split
 ·exact Le.set _ _
 ·exact Le.refl _
theorem zeG (s:List Bool) (r:List Int):Le s (zh6 s r):=za3 _ zeI r s
theorem zeH:∀(r:List Int) (s:List Bool) (i:Nat),(zh6 s r).getD i false=true->s.getD i false=true \/ ∃z∈r,z<0/\i=(-1-z).toNat
 | [],_,_,h=>.inl h
 | z::r,s,i,h=>by
  rcases zeH r (zdB s z) i h with h1|⟨y,hy,h1⟩
  ·unfold zdB at h1;split at h1
   ·rcases getD_set _ _ _ h1 with h2|h2
    ·exact .inl h2
    ·exact .inr ⟨z,List.mem_cons_self ..,by assumption,h2⟩
   ·exact .inl h1
  ·exact .inr ⟨y,List.mem_cons_of_mem _ hy,h1⟩
theorem zdA:∀(r:List Int) (s:List Bool),Sin s.length r->∀z∈r,z<0->(zh6 s r).getD (-1-z).toNat false=true
 | [],_,_=>by simp
 | y::r,s,hi=>by
  intro z hz hn;have hl:(zdB s y).length=s.length:=(zeI s y).len.symm;rcases List.mem_cons.1 hz with rfl|hz
  ·refine(zeG (zdB s z) r).get _ ?_;unfold zdB;rw[if_pos hn]
   have:=hi z (List.mem_cons_self ..) hn
   exact set_getD _ _ (by omega)
  ·exact zdA r _ (by rw[hl];exact fun u hu h=>hi u (List.mem_cons_of_mem _ hu) h) z hz hn
def zcp (p is:List Bool) (x:Rl):List Bool:=if is.getD x.l.toNat false=true/\allB true p x.r=true then zh6 is x.r else is
def zew (p:List Bool) (rs:List Rl) (is:List Bool):List Bool:=rs.foldl (zcp p) is
theorem zdq (p is:List Bool) (x:Rl):Le is (zcp p is x):=by
 unfold zcp;split
 ·exact zeG _ _
 ·exact Le.refl _
theorem zdp {G:Gr} (hl:Lin G.ns.length G.rs):∀(xs:List Rl) (is:List Bool),(∀x∈xs,x∈G.rs)->zj7 G is->zj7 G (xs.foldl (zcp (gn true G.rs G.ns.length)) is)
 | [],_,_,h=>h
 | x::xs,is,hx,h=>by
  refine zdp hl xs _ (fun y hy=>hx y (List.mem_cons_of_mem _ hy)) ?_;have hm:=hx x (List.mem_cons_self ..);unfold zcp;split
  ·rename_i e
   intro i hi;rcases zeH _ _ _ hi with h1|⟨z,hz,hn,rfl⟩
   ·exact h i h1
   ·rw[Int.toNat_of_nonneg (by omega)];refine .on x hm ?_ ((allB_gn hl _).1 e.2) z hz hn
    have:=h _ e.1
    rwa [Int.toNat_of_nonneg (hl x hm).1]at this
  ·exact h
theorem zfc {G:Gr} (hl:Lin G.ns.length G.rs) (k:Nat) {is:List Bool} (h:zj7 G is):zj7 G (aW (zew (gn true G.rs G.ns.length) G.rs) k is):=by
 induction k with
 | zero=>exact h
 | succ k ih=>exact zdp hl G.rs _ (fun _ h=>h) ih
theorem reach_rc {G:Gr} (hl:Lin G.ns.length G.rs) (hi:∀x∈G.rs,Sin G.ns.length x.r) (h0:0<=G.st) (h1:G.st<G.ns.length) :
  aW (zew (gn true G.rs G.ns.length) G.rs) G.ns.length ((List.replicate G.ns.length false).set G.st.toNat true)=rc G:=by
 have hle:∀s,Le s (zew (gn true G.rs G.ns.length) G.rs s):=fun s=>za3 _ (zdq _) G.rs s;generalize hs0:(List.replicate G.ns.length false).set G.st.toNat true=s0;have hlen:s0.length=G.ns.length:=by rw[<-hs0];simp
 have hst:s0.getD G.st.toNat false=true:=by rw[<-hs0];exact set_getD _ _ (by simp;omega)
 have hsnd:zj7 G s0:=fun i hi=>by
  rw[<-hs0]at hi;rcases getD_set _ _ _ hi with h2|h2
  ·rw[List.getD_eq_getElem?_getD,List.getElem?_replicate]at h2;split at h2 <;> cases h2
  ·rw[h2,Int.toNat_of_nonneg h0];exact .st
 have hfix:=zbO hle s0;rw[hlen]at hfix;have hl2:(aW (zew (gn true G.rs G.ns.length) G.rs) G.ns.length s0).length=G.ns.length:=by rw[<-(zbb hle _ s0).len,hlen]
 refine rc_row hl2 (zfc hl _ hsnd) ⟨(zbb hle _ s0).get _ hst,fun x hx e ha z hz hn=>?_⟩
 have:=zbh _ (zdq _) G.rs _ hfix x hx
 unfold zcp at this;rw[if_pos ⟨e,(allB_gn hl _).2 ha⟩]at this;rw[<-this];exact zdA x.r _ (by rw[hl2];exact hi x hx) z hz hn
structure Ok (G:Gr):Prop where
 t:terms G.ts=true
 n:zlN G=true
 r1:1<=G.rs.length
 r40:G.rs.length<=40
 s0:0<=G.st
 s1:G.st<G.ns.length
 rr:∀x∈G.rs,rule G x=true
 tp:zhD G.ns.length (G.rs.map Rl.l) (-1)=true
theorem zcj (G:Gr):∀(rs:List Rl) (top:Int),zcb G rs top=true->(∀r∈rs,rule G r=true)/\zhD G.ns.length (rs.map Rl.l) top=true
 | [],_,h=>⟨by simp,h⟩
 | r::rs,top,h=>by
  rw[zcb]at h;split at h
  ·cases h
  ·rename_i h1
   have h2:=zcj G rs _ h;have h3:rule G r=true:=by cases hr:rule G r <;> simp_all
   refine⟨fun x hx=>?_,?_⟩
   ·rcases List.mem_cons.1 hx with rfl|hx
    ·exact h3
    ·exact h2.1 x hx
   ·rw[List.map_cons,zhD,if_neg (by omega)];exact h2.2
theorem right_ok {G:Gr}:right G=true↔Ok G:=by
 constructor
 ·intro h;unfold right at h;simp only[Bool.and_eq_true,decide_eq_true_eq]at h;obtain⟨⟨⟨⟨⟨⟨h1,h2⟩,h3⟩,h4⟩,h5⟩,h6⟩,h7⟩:=h
  have:=zcj G _ _ h7
  exact⟨h1,h2,h3,h4,h5,h6,this.1,this.2⟩
 ·intro h;unfold right;simp only[Bool.and_eq_true,decide_eq_true_eq];exact⟨⟨⟨⟨⟨⟨h.t,h.n⟩,h.r1⟩,h.r40⟩,h.s0⟩,h.s1⟩,zcn G _ _ h.rr h.tp⟩
theorem zfX {n:Nat}:∀(ls:List Int) (top:Int),zhD n ls top=true->top<=n-1/\∀l∈ls,0<=l/\l<n
 | [],top,h=>by
  rw[zhD]at h
  have:top=n-1:=by simpa using h
  exact⟨by omega,by simp⟩
 | l::r,top,h=>by
  rw[zhD]at h;split at h
  ·cases h
  ·have h2:=zfX r _ h;refine⟨by have:=h2.1;split at this <;> omega,fun x hx=>?_⟩;rcases List.mem_cons.1 hx with rfl|hx
   ·have:=h2.1;split at this <;> omega
   ·exact h2.2 x hx
theorem Ok.lin {G:Gr} (h:Ok G):Lin G.ns.length G.rs:=fun x hx=>(zfX _ _ h.tp).2 x.l (List.mem_map_of_mem hx)
theorem rule_in {G:Gr} {x:Rl} (h:rule G x=true):x.r.length<=6/\-1<=x.p/\x.p<G.ts.length/\∀z∈x.r,z<G.ts.length/\-1-z<G.ns.length/\(0<=z->x.p ≠ -1):=by
 unfold rule at h;simp only[Bool.and_eq_true,decide_eq_true_eq,List.all_eq_true]at h;obtain⟨⟨⟨h1,h2⟩,h3⟩,h4⟩:=h;refine⟨h1,h2,h3,fun z hz=>?_⟩;have h5:=h4 z hz;unfold has at h5;by_cases h0:0<=z
 ·rw[if_pos h0]at h5;simp[h0]at h5;exact⟨h5.1,by omega,fun _=>h5.2⟩
 ·rw[if_neg h0]at h5;simp[h0]at h5;exact⟨by omega,h5,fun h=>absurd h h0⟩
theorem Ok.sin {G:Gr} (h:Ok G):∀x∈G.rs,Sin G.ns.length x.r:=fun x hx z hz _=>((rule_in (h.rr x hx)).2.2.2 z hz).2.1
end Gm
namespace Gm
def ord:List Int->List Int->List Int
 | acc,[]=>acc
 | acc,l::r=>ord (if l∈acc then acc else acc++[l]) r
def pos (o:List Int) (l:Int):Int:=if l∈o then(o.idxOf l:Int) else -1
theorem ord_mem:∀(ls acc:List Int) (x:Int),x∈ord acc ls↔x∈acc\/x∈ls
 | [],acc,x=>by rw[ord];simp
 | l::r,acc,x=>by
  rw[ord,ord_mem r];split
  ·simp only[List.mem_cons]
   constructor
   ·rintro(h|h)
    ·exact .inl h
    ·exact .inr (.inr h)
   ·rintro(h|rfl|h)
    ·exact .inl h
    ·exact .inl (by assumption)
    ·exact .inr h
  ·simp only[List.mem_append,List.mem_cons,List.not_mem_nil,or_false]
   constructor
   ·rintro((h|h)|h)
    ·exact .inl h
    ·exact .inr (.inl h)
    ·exact .inr (.inr h)
   ·rintro(h|h|h)
    ·exact .inl (.inl h)
    ·exact .inl (.inr h)
    ·exact .inr h
theorem ord_nodup:∀(ls acc:List Int),acc.Nodup->(ord acc ls).Nodup
 | [],acc,h=>by rw[ord];exact h
 | l::r,acc,h=>by
  rw[ord];refine ord_nodup r _ ?_;split
  ·exact h
  ·rename_i hn
   rw[List.nodup_append];refine⟨h,by simp,fun a ha b hb=>?_⟩;simp at hb;subst hb;exact fun e=>hn (e▸ha)
theorem zey {o:List Int} {l:Int} (h:l∈o):pos o l=(o.idxOf l:Int):=by unfold pos;rw[if_pos h]
theorem pos_lt {o:List Int} {l:Int} (h:l∈o):0<=pos o l/\pos o l<o.length:=by
 rw[zey h]
 have:=List.idxOf_lt_length_of_mem h
 omega
theorem pos_app {acc t:List Int} {l:Int} (h:l∈acc):pos (acc++t) l=pos acc l:=by
 rw[zey h,zey (List.mem_append_left _ h),List.idxOf_append,if_pos h]
theorem pos_new {acc t:List Int} {l:Int} (h:l ∉ acc):pos (acc++l::t) l=acc.length:=by
 rw[zey (by simp),List.idxOf_append,if_neg h];simp
noncomputable def use (G:Gr) (x:Rl):Bool:=tr (Rc G x.l/\Al true G.rs x.r)
noncomputable def krs (G:Gr):List Rl:=G.rs.filter (use G)
noncomputable def kept (G:Gr):List Nat:=(List.range G.rs.length).filter fun i=>(G.rs[i]?).any (use G)
noncomputable def olds (G:Gr):List Int:=ord [] ((krs G).map Rl.l)
def re1 (o:List Int) (z:Int):Int:=if z<0 then -1-pos o (-1-z) else z
def re (o:List Int) (x:Rl):Rl:=⟨pos o x.l,x.r.map (re1 o),x.p⟩
noncomputable def reduce (G:Gr):Gr:=⟨G.ts,(olds G).map fun l=>G.ns.getD l.toNat [],(krs G).map (re (olds G)),pos (olds G) G.st⟩
theorem mem_krs {G:Gr} {x:Rl}:x∈krs G↔x∈G.rs/\Rc G x.l/\Al true G.rs x.r:=by
 unfold krs use;rw[List.mem_filter,tr_iff]
theorem zcV {G:Gr} {l:Int}:l∈olds G ↔ ∃x∈krs G,x.l=l:=by
 unfold olds;rw[ord_mem];simp
theorem zfr (G:Gr):(olds G).Nodup:=ord_nodup _ _ (by simp)
theorem zgw {G:Gr} {j:Int} (h:Rc G j) (hp:Gn true G.rs j):j∈olds G:=by
 obtain⟨x,hx,rfl,ha⟩:=hp.rule;exact zcV.2 ⟨x,mem_krs.2 ⟨hx,h,ha⟩,rfl⟩
theorem zjv {G:Gr} {j:Int} (h:j∈olds G):Rc G j/\Gn true G.rs j:=by
 obtain⟨x,hx,rfl⟩:=zcV.1 h;obtain⟨h1,h2,h3⟩:=mem_krs.1 hx;exact⟨h2,.of h1 h3⟩
theorem use_sym {G:Gr} {x:Rl} (hx:x∈krs G) {z:Int} (hz:z∈x.r) (hn:z<0):-1-z∈olds G:=by
 obtain⟨h1,h2,h3⟩:=mem_krs.1 hx;exact zgw (.on x h1 h2 h3 z hz hn) (h3.2 z hz hn)
theorem use_left {G:Gr} {x:Rl} (hx:x∈krs G):x.l∈olds G:=zcV.2 ⟨x,hx,rfl⟩
theorem zlh {G:Gr} {j:Int} (hp:Gn true G.rs j):Rc G j->Gn true (reduce G).rs (pos (olds G) j):=by
 induction hp with
 | mk x hx ht hn ih =>
  intro hr;have ha:Al true G.rs x.r:=⟨ht,hn⟩
  have hk:x∈krs G:=mem_krs.2 ⟨hx,hr,ha⟩;have hm:re (olds G) x∈(reduce G).rs:=List.mem_map_of_mem hk;refine Gn.of hm ⟨fun _ _ _=>rfl,fun z hz h0=>?_⟩;obtain⟨y,hy,rfl⟩:=List.mem_map.1 hz;unfold re1 at h0 ⊢;by_cases h1:y<0
  ·rw[if_pos h1]at h0 ⊢;rw[show -1-(-1-pos (olds G) (-1-y))=pos (olds G) (-1-y) by omega];exact ih y hy h1 (.on x hx hr ha y hy h1)
  ·rw[if_neg h1]at h0;omega
theorem ziY {G:Gr} {x:Rl} (hk:x∈krs G):Al true (reduce G).rs (re (olds G) x).r:=by
 obtain⟨hx,hr,ha⟩:=mem_krs.1 hk;refine⟨fun _ _ _=>rfl,fun z hz h0=>?_⟩;obtain⟨y,hy,rfl⟩:=List.mem_map.1 hz;unfold re1 at h0 ⊢;by_cases h1:y<0
 ·rw[if_pos h1]at h0 ⊢;rw[show -1-(-1-pos (olds G) (-1-y))=pos (olds G) (-1-y) by omega];exact zlh (ha.2 y hy h1) (.on x hx hr ha y hy h1)
 ·rw[if_neg h1]at h0;omega
theorem zkq {G:Gr} {j:Int} (h:Rc G j):Rc (reduce G) (pos (olds G) j):=by
 induction h with
 | st=>exact .st
 | on x hx hr hp z hz hn ih =>
  have hk:x∈krs G:=mem_krs.2 ⟨hx,hr,hp⟩;have hm:re (olds G) x∈(reduce G).rs:=List.mem_map_of_mem hk;have h1:=pos_lt (use_sym hk hz hn)
  have:=Rc.on (G:=reduce G) (re (olds G) x) hm ih (ziY hk) (-1-pos (olds G) (-1-z)) (List.mem_map.2 ⟨z,hz,by unfold re1;rw[if_pos hn]⟩) (by omega)
  rwa [show -1-(-1-pos (olds G) (-1-z))=pos (olds G) (-1-z) by omega]at this
theorem red_use {G:Gr} {y:Rl} (hy:y∈(reduce G).rs):use (reduce G) y=true:=by
 obtain⟨x,hx,rfl⟩:=List.mem_map.1 hy;unfold use;rw[tr_iff];exact⟨zkq (mem_krs.1 hx).2.1,ziY hx⟩
theorem st_in {G:Gr} (hp:Gn true G.rs G.st):G.st∈olds G:=zgw .st hp
end Gm
namespace Gm
theorem olds_lt {G:Gr} (h:Ok G) {j:Int} (hj:j∈olds G):0<=j/\j<G.ns.length:=(zjv hj).2.lin h.lin
theorem olds_le {G:Gr} (h:Ok G):(olds G).length<=G.ns.length:=by
 have h1:=pigeons G.ns.length ((olds G).map (· + 1)) ?_ ?_
 ·simpa using h1.1
 ·refine List.nodup_iff_pairwise_ne.2 ?_;rw[List.pairwise_map];exact(List.nodup_iff_pairwise_ne.1 (zfr G)).imp fun h e=>h (by omega)
 ·intro x hx;obtain⟨y,hy,rfl⟩:=List.mem_map.1 hx
  have:=olds_lt h hy
  omega
theorem zgS (G:Gr):(kept G).map (fun i=>G.rs.getD i ⟨0,[],0⟩)=krs G:=by
 unfold kept krs;generalize use G=f
 have key:∀(rs pre:List Rl),((List.range' pre.length rs.length).filter fun i=>((pre++rs)[i]?).any f).map (fun i=>(pre++rs).getD i ⟨0,[],0⟩)=rs.filter f:=by
  intro rs;induction rs with
  | nil=>intro pre;simp
  | cons x rs ih =>
   intro pre;have h1:=ih (pre++[x]);simp only[List.append_assoc,List.singleton_append,List.length_append,List.length_singleton]at h1;rw[List.length_cons,List.range'_succ,List.filter_cons,List.filter_cons];have h2:(pre++x::rs)[pre.length]?=some x:=by simp
   rw[h2];simp only[Option.any_some];split
   ·rw[List.map_cons,h1]
    congr 1
    simp
   ·exact h1
 have:=key G.rs []
 simpa[List.range_eq_range'] using this
theorem kept_len (G:Gr):(kept G).length=(krs G).length:=by rw[<-zgS];simp
theorem kept_lt {G:Gr} {i:Nat} (h:i∈kept G):i<G.rs.length:=by
 have:=List.mem_filter.1 h
 exact List.mem_range.1 this.1
theorem kept_at {G:Gr} (i:Nat) (h:i<(kept G).length) (h2:(kept G)[i]<G.rs.length):(krs G)[i]'(by rw[<-kept_len];exact h)=G.rs[(kept G)[i]]:=by
 have:(krs G)[i]?=some (G.rs[(kept G)[i]]):=by
  rw[<-zgS,List.getElem?_map,List.getElem?_eq_getElem h];simp[h2]
 rw[List.getElem?_eq_getElem (by rw[<-kept_len];exact h)]at this;exact Option.some.inj this
end Gm
namespace Au
abbrev It:=Int×Int
def sy (G:Gm.Gr) (r:Int):List Int:=if r = -1 then [-1-G.st] else(G.rs.getD r.toNat ⟨0,[],0⟩).r
def isI (G:Gm.Gr) (x:It):Bool:=decide (-1<=x.1)&&decide (x.1<G.rs.length)&&decide (0<=x.2)&&decide (x.2<=(sy G x.1).length)
def nx (G:Gm.Gr) (x:It):Option Int:=(sy G x.1)[x.2.toNat]?
def lt (a b:It):Bool:=decide (a.1<b.1)||(decide (a.1=b.1)&&decide (a.2<b.2))
def Srt (l:List It):Prop:=l.Pairwise fun a b=>lt a b=true
theorem lt_iff {a b:It}:lt a b=true↔a.1<b.1\/a.1=b.1/\a.2<b.2:=by
 unfold lt;simp only[Bool.or_eq_true,Bool.and_eq_true,decide_eq_true_eq]
theorem lt_trans {a b c:It} (h:lt a b=true) (k:lt b c=true):lt a c=true:=by
 rw[lt_iff]at *;omega
theorem lt_irr (a:It):lt a a=false:=by
 cases h:lt a a
 ·rfl
 ·rw[lt_iff]at h;omega
theorem lt_or {a b:It} (h:lt a b=false) (hn:a≠b):lt b a=true:=by
 cases k:lt b a
 ·exfalso
  have h1:¬lt a b=true:=by rw[h];decide
  have k1:¬lt b a=true:=by rw[k];decide
  rw[lt_iff]at h1 k1;refine hn (Prod.ext ?_ ?_) <;> omega
 ·rfl
def put:List It->It->List It
 | [],x=>[x]
 | y::l,x=>if lt y x=true then y::put l x else if y=x then y::l else x::y::l
theorem zbV {z x:It}:∀ {l:List It},z∈put l x↔z=x\/z∈l
 | []=>by simp[put]
 | y::l=>by
  unfold put;split
  ·rw[List.mem_cons,zbV (l:=l),List.mem_cons]
   constructor
   ·rintro(h|h|h)
    ·exact .inr (.inl h)
    ·exact .inl h
    ·exact .inr (.inr h)
   ·rintro(h|h|h)
    ·exact .inr (.inl h)
    ·exact .inl h
    ·exact .inr (.inr h)
  ·split
   ·rename_i e
    subst e;rw[List.mem_cons]
    constructor
    ·exact fun h=>.inr h
    ·rintro(h|h)
     ·exact .inl h
     ·exact h
   ·rw[List.mem_cons]
theorem zd5 {x:It}:∀ {l:List It},Srt l->Srt (put l x)
 | [],_=>by simp[put,Srt]
 | y::l,h=>by
  obtain⟨h1,h2⟩:=List.pairwise_cons.1 h;unfold put;split
  ·rename_i hy
   refine List.pairwise_cons.2 ⟨fun z hz=>?_,zd5 h2⟩;rcases zbV.1 hz with rfl|hz
   ·exact hy
   ·exact h1 z hz
  ·rename_i hy
   split
   ·exact h
   ·rename_i hn
    have hl:=lt_or (by simpa using hy) hn;refine List.pairwise_cons.2 ⟨fun z hz=>?_,h⟩;rcases List.mem_cons.1 hz with rfl|hz
    ·exact hl
    ·exact lt_trans hl (h1 z hz)
theorem zcN:∀ {a b:List It},Srt a->Srt b->(∀z,z∈a↔z∈b)->a=b
 | [],[],_,_,_=>rfl
 | [],y::b,_,_,h=>by have:=(h y).2 List.mem_cons_self;cases this
 | x::a,[],_,_,h=>by have:=(h x).1 List.mem_cons_self;cases this
 | x::a,y::b,ha,hb,h=>by
  obtain⟨a1,a2⟩:=List.pairwise_cons.1 ha;obtain⟨b1,b2⟩:=List.pairwise_cons.1 hb
  have e:x=y:=by
   rcases List.mem_cons.1 ((h x).1 List.mem_cons_self) with e|e
   ·exact e
   ·rcases List.mem_cons.1 ((h y).2 List.mem_cons_self) with k|k
    ·exact k.symm
    ·have:=lt_trans (b1 x e) (a1 y k)
     rw[lt_irr]at this;cases this
  subst e
  congr 1
  refine zcN a2 b2 fun z=>⟨fun hz=>?_,fun hz=>?_⟩
  ·rcases List.mem_cons.1 ((h z).1 (List.mem_cons_of_mem _ hz)) with rfl|k
   ·have:=a1 z hz;rw[lt_irr]at this;cases this
   ·exact k
  ·rcases List.mem_cons.1 ((h z).2 (List.mem_cons_of_mem _ hz)) with rfl|k
   ·have:=b1 z hz;rw[lt_irr]at this;cases this
   ·exact k
theorem zf6 {l:List It} (h:Srt l):l.Nodup:=List.nodup_iff_pairwise_ne.2 (h.imp fun k e=>by rw[e,lt_irr]at k;cases k)
def ziE (out l:List It):List It:=l.foldl put out
theorem zaZ {z:It}:∀ {l out:List It},z∈ziE out l↔z∈out\/z∈l
 | [],out=>by simp[ziE]
 | x::l,out=>by
  have:=zaZ (z:=z) (l:=l) (out:=put out x)
  rw[show ziE out (x::l)=ziE (put out x) l from rfl,this,zbV,List.mem_cons]
  constructor
  ·rintro((h|h)|h)
   ·exact .inr (.inl h)
   ·exact .inl h
   ·exact .inr (.inr h)
  ·rintro(h|h|h)
   ·exact .inl (.inr h)
   ·exact .inl (.inl h)
   ·exact .inr h
theorem zcS:∀ {l out:List It},Srt out->Srt (ziE out l)
 | [],_,h=>h
 | _::l,_,h=>zcS (l:=l) (zd5 h)
def rls (G:Gm.Gr):List Int:=-1::(List.range G.rs.length).map fun k:Nat=>(k:Int)
def zhr (G:Gm.Gr):List It:=(rls G).flatMap fun r=>(List.range ((sy G r).length+1)).map fun d:Nat=>(r,(d:Int))
theorem isI_iff {G:Gm.Gr} {x:It}:isI G x=true↔(-1<=x.1/\x.1<G.rs.length)/\0<=x.2/\x.2<=(sy G x.1).length:=by
 unfold isI;simp only[Bool.and_eq_true,decide_eq_true_eq]
 constructor
 ·rintro⟨⟨⟨h1,h2⟩,h3⟩,h4⟩;exact⟨⟨h1,h2⟩,h3,h4⟩
 ·rintro⟨⟨h1,h2⟩,h3,h4⟩;exact⟨⟨⟨h1,h2⟩,h3⟩,h4⟩
theorem rls_mem {G:Gm.Gr} {r:Int}:r∈rls G ↔ -1<=r/\r<G.rs.length:=by
 unfold rls;rw[List.mem_cons,List.mem_map]
 constructor
 ·rintro(rfl|⟨k,hk,rfl⟩)
  ·omega
  ·have:=List.mem_range.1 hk;omega
 ·rintro⟨h1,h2⟩;by_cases e:r = -1
  ·exact .inl e
  ·exact .inr ⟨r.toNat,List.mem_range.2 (by omega),by omega⟩
theorem zbK {G:Gm.Gr} {x:It}:x∈zhr G↔isI G x=true:=by
 unfold zhr;rw[List.mem_flatMap,isI_iff]
 constructor
 ·rintro⟨r,hr,hx⟩;obtain⟨d,hd,rfl⟩:=List.mem_map.1 hx
  have:=List.mem_range.1 hd
  refine⟨rls_mem.1 hr,?_,?_⟩
  ·show(0:Int)<=(d:Int)
   omega
  ·exact Int.ofNat_le.2 (Nat.le_of_lt_succ this)
 ·rintro⟨h1,h2,h3⟩;refine⟨x.1,rls_mem.2 h1,List.mem_map.2 ⟨x.2.toNat,List.mem_range.2 (by omega),?_⟩⟩;refine Prod.ext rfl ?_;simp only;omega
theorem zbf (n:Nat):(List.range n).Pairwise (· < ·):=List.pairwise_lt_range
theorem zeU {f:Int->List It} (hf:∀r,Srt (f r)) (h1:∀r x,x∈f r->x.1=r):∀ {l:List Int},l.Pairwise (· < ·)->Srt (l.flatMap f)
 | [],_=>List.Pairwise.nil
 | r::l,h=>by
  obtain⟨a,b⟩:=List.pairwise_cons.1 h;rw[List.flatMap_cons];refine List.pairwise_append.2 ⟨hf r,zeU hf h1 b,fun x hx y hy=>?_⟩;obtain⟨q,hq,hy⟩:=List.mem_flatMap.1 hy;have e1:=h1 r x hx;have e2:=h1 q y hy
  have:=a q hq
  rw[lt_iff];omega
theorem ze6 (G:Gm.Gr):Srt (zhr G):=by
 refine zeU (fun r=>?_) (fun r x hx=>?_) ?_
 ·unfold Srt;rw[List.pairwise_map];refine(zbf _).imp fun {a b} h=>?_;rw[lt_iff];exact .inr ⟨rfl,Int.ofNat_lt.2 h⟩
 ·obtain⟨d,_,rfl⟩:=List.mem_map.1 hx;rfl
 ·unfold rls;refine List.pairwise_cons.2 ⟨fun z hz=>?_,?_⟩
  ·obtain⟨k,_,rfl⟩:=List.mem_map.1 hz;omega
  ·rw[List.pairwise_map];exact(zbf _).imp fun {a b} h=>by omega
theorem ziC {G:Gm.Gr} {l:List It} (h:Srt l) (hi:∀x∈l,isI G x=true):l.length<=(zhr G).length:=by
 have e:l=(zhr G).filter fun x=>Gm.tr (x∈l):=zcN h ((ze6 G).filter _) fun z=>by
  rw[List.mem_filter,Gm.tr_iff,zbK];exact⟨fun k=>⟨hi z k,k⟩,fun k=>k.2⟩
 rw[e];exact List.length_filter_le _ _
inductive Cl (G:Gm.Gr) (l:List It):It->Prop
 | of (x:It) (h:x∈l):Cl G l x
 | on (x:It) (h:Cl G l x) (s:Int) (hs:nx G x=some s) (h0:s<0) (k:Nat) (hk:k<G.rs.length) (hl:(G.rs[k]).l = -1-s):Cl G l ((k:Int),0)
noncomputable def clo (G:Gm.Gr) (l:List It):List It:=(zhr G).filter fun x=>Gm.tr (Cl G l x)
theorem zc4 (G:Gm.Gr) (l:List It):Srt (clo G l):=(ze6 G).filter _
theorem zi3 {G:Gm.Gr} {k:Nat} (hk:k<G.rs.length):isI G ((k:Int),0)=true:=by
 rw[isI_iff];simp only;omega
theorem cl_is {G:Gm.Gr} {l:List It} (hl:∀x∈l,isI G x=true) {x:It} (h:Cl G l x):isI G x=true:=by
 cases h with
 | of _ h=>exact hl x h
 | on y _ s _ _ k hk _=>exact zi3 hk
theorem zaA {G:Gm.Gr} {l:List It} (hl:∀x∈l,isI G x=true) {x:It}:x∈clo G l↔Cl G l x:=by
 unfold clo;rw[List.mem_filter,zbK,Gm.tr_iff];exact⟨fun h=>h.2,fun h=>⟨cl_is hl h,h⟩⟩
theorem clo_is {G:Gm.Gr} {l:List It} {x:It} (h:x∈clo G l):isI G x=true:=zbK.1 (List.mem_filter.1 h).1
theorem ziS {G:Gm.Gr} {l out:List It} (hl:∀x∈l,isI G x=true) (hs:Srt out) (h1:∀x∈l,x∈out) (h2:∀x∈out,Cl G l x)
  (h3:∀x∈out,∀s,nx G x=some s->s<0->∀k:Nat,∀hk:k<G.rs.length,(G.rs[k]).l = -1-s->((k:Int),0)∈out):out=clo G l:=by
 refine zcN hs (zc4 G l) fun z=>?_;rw[zaA hl];refine⟨h2 z,fun h=>?_⟩;induction h with
 | of x h=>exact h1 x h
 | on x _ s hs h0 k hk hl ih=>exact h3 x ih s hs h0 k hk hl
def mv (G:Gm.Gr) (l:List It) (s:Int):List It:=(l.filter fun x=>nx G x==some s).map fun x=>(x.1,x.2+1)
theorem zkG {G:Gm.Gr} {l:List It} (h:Srt l) (s:Int):Srt (mv G l s):=by
 unfold mv Srt;rw[List.pairwise_map];refine(List.Pairwise.filter _ h).imp fun {a b} k=>?_;rw[lt_iff]at k ⊢;simp only;omega
theorem zdz {G:Gm.Gr} {l:List It} {s:Int} {y:It}:y∈mv G l s ↔ ∃x∈l,nx G x=some s/\y=(x.1,x.2+1):=by
 unfold mv;rw[List.mem_map]
 constructor
 ·rintro⟨x,hx,rfl⟩;obtain⟨h1,h2⟩:=List.mem_filter.1 hx;exact⟨x,h1,by simpa using h2,rfl⟩
 ·rintro⟨x,h1,h2,rfl⟩;exact⟨x,List.mem_filter.2 ⟨h1,by simpa using h2⟩,rfl⟩
theorem zkD {G:Gm.Gr} {x:It} {s:Int} (hx:0<=x.2) (h:nx G x=some s):x.2<(sy G x.1).length:=by
 unfold nx at h
 have:=(List.getElem?_eq_some_iff.1 h).1
 omega
theorem mv_is {G:Gm.Gr} {l:List It} (hl:∀x∈l,isI G x=true) {s:Int} {y:It} (hy:y∈mv G l s):isI G y=true:=by
 obtain⟨x,hx,hs,rfl⟩:=zdz.1 hy;have h:=isI_iff.1 (hl x hx)
 have:=zkD h.2.1 hs
 rw[isI_iff];simp only;omega
end Au
namespace Gm
theorem has_iff {G:Gr} {z:Int}:has G z=true↔z<G.ts.length/\-1-z<G.ns.length:=by
 unfold has;split
 ·simp only[decide_eq_true_eq];omega
 ·simp only[decide_eq_true_eq];omega
end Gm
namespace Au
def syms (G:Gm.Gr):List Int:=(List.range G.ts.length).map (fun i:Nat=>(i:Int))++(List.range G.ns.length).map fun i:Nat=>-1-(i:Int)
theorem syms_mem {G:Gm.Gr} {s:Int}:s∈syms G↔Gm.has G s=true:=by
 rw[Gm.has_iff];unfold syms;rw[List.mem_append,List.mem_map,List.mem_map]
 constructor
 ·rintro(⟨i,hi,rfl⟩|⟨i,hi,rfl⟩)
  ·have:=List.mem_range.1 hi;omega
  ·have:=List.mem_range.1 hi;omega
 ·rintro⟨h1,h2⟩;by_cases h:0<=s
  ·exact .inl ⟨s.toNat,List.mem_range.2 (by omega),by omega⟩
  ·exact .inr ⟨(-1-s).toNat,List.mem_range.2 (by omega),by omega⟩
theorem zff (G:Gm.Gr):(syms G).Nodup:=by
 unfold syms;refine List.nodup_iff_pairwise_ne.2 (List.pairwise_append.2 ⟨?_,?_,fun x hx y hy=>?_⟩)
 ·rw[List.pairwise_map];exact(zbf _).imp fun {a b} h=>by omega
 ·rw[List.pairwise_map];exact(zbf _).imp fun {a b} h=>by omega
 ·obtain⟨i,_,rfl⟩:=List.mem_map.1 hx;obtain⟨k,_,rfl⟩:=List.mem_map.1 hy;omega
theorem syms_len (G:Gm.Gr):(syms G).length=G.ts.length+G.ns.length:=by simp[syms]
def fnd:List (List It)->List It->Int
 | [],_=>-1
 | y::l,k=>if y=k then 0 else if fnd l k<0 then -1 else fnd l k+1
theorem ziP {k:List It}:∀ {l:List (List It)},fnd l k<0↔k ∉ l
 | []=>by simp[fnd]
 | y::l=>by
  have ih:=ziP (k:=k) (l:=l);rw[fnd,List.mem_cons];split
  ·rename_i e
   simp[e]
  ·rename_i e
   split
   ·rename_i h
    have:=ih.1 h
    simp[this,Ne.symm e]
   ·rename_i h
    have:k∈l:=Classical.byContradiction fun q=>h (ih.2 q)
    simp[this];omega
theorem ziQ {k:List It}:∀ {l:List (List It)},0<=fnd l k->l[(fnd l k).toNat]?=some k
 | [],h=>by simp[fnd]at h
 | y::l,h=>by
  rw[fnd]at h ⊢;by_cases e:y=k
  ·rw[if_pos e,e];rfl
  ·rw[if_neg e]at h ⊢;by_cases q:fnd l k<0
   ·rw[if_pos q]at h;omega
   ·rw[if_neg q];rw[show(fnd l k+1).toNat=(fnd l k).toNat+1 by omega,List.getElem?_cons_succ];exact ziQ (by omega)
def edge (G:Gm.Gr) (l:List It) (p:List (List It)×List (Int×Int)) (s:Int):List (List It)×List (Int×Int) :=
 if mv G l s=[] then p
 else if 0<=fnd p.1 (mv G l s) then(p.1,p.2++[(s,fnd p.1 (mv G l s))])
 else(p.1++[mv G l s],p.2++[(s,(p.1.length:Int))])
def edges (G:Gm.Gr) (l:List It) (p:List (List It)×List (Int×Int)) (ss:List Int):List (List It)×List (Int×Int):=ss.foldl (edge G l) p
theorem edges_snoc (G:Gm.Gr) (l:List It) (p:List (List It)×List (Int×Int)) (ss:List Int) (s:Int):edges G l p (ss++[s])=edge G l (edges G l p ss) s:=by simp[edges]
noncomputable def one (G:Gm.Gr) (ks:List (List It)) (n:Nat):List (List It)×List (Int×Int):=edges G (clo G (ks.getD n [])) (ks,[]) (syms G)
noncomputable def run (G:Gm.Gr):Nat->List (List It)->List (List (Int×Int))->Option (List (List It)×List (List (Int×Int)))
 | 0,_,_=>none
 | f+1,ks,es=>if es.length<ks.length then(if 300<(one G ks es.length).1.length then none else run G f (one G ks es.length).1 (es++[(one G ks es.length).2])) else some (ks,es)
noncomputable def bld (G:Gm.Gr):Option (List (List It)×List (List (Int×Int))):=run G 302 [[(-1,0)]] []
structure PInv (G:Gm.Gr) (ks:List (List It)) (l:List It) (ss:List Int) (p:List (List It)×List (Int×Int)):Prop where
 pre:∃new,p.1=ks++new
 nd:p.1.Nodup
 it:∀k∈p.1,Srt k/\∀x∈k,isI G x=true
 sy:p.2.map (·.1)=ss.filter fun s=>mv G l s != []
 ed:∀e∈p.2,∃j:Nat,e.2=j/\p.1[j]?=some (mv G l e.1)
 up:∀j,ks.length<=j->j<p.1.length->∃e∈p.2,e.2=(j:Int)
theorem PInv.edge {G:Gm.Gr} {ks:List (List It)} {l:List It} (hl:Srt l) (hi:∀x∈l,isI G x=true) {ss:List Int} {p:List (List It)×List (Int×Int)} (h:PInv G ks l ss p) (s:Int):PInv G ks l (ss++[s]) (edge G l p s):=by
 unfold Au.edge;split
 ·rename_i e
  refine⟨h.pre,h.nd,h.it,?_,h.ed,h.up⟩;rw[h.sy,List.filter_append,List.filter_cons,if_neg (by simp[e])];simp
 ·rename_i e
  have hs:∀z:Int,(p.2++[(s,z)]).map (fun e:Int×Int=>e.1)=(ss++[s]).filter fun s=>mv G l s != []:=fun z=>by
   rw[List.map_append,h.sy,List.filter_append,List.filter_cons,if_pos (by simpa using e)];simp
  split
  ·rename_i h0
   refine⟨h.pre,h.nd,h.it,hs _,fun x hx=>?_,fun j h1 h2=>?_⟩
   ·rcases List.mem_append.1 hx with hx|hx
    ·exact h.ed x hx
    ·rw[List.mem_singleton.1 hx];exact⟨(fnd p.1 (mv G l s)).toNat,by simp only;omega,ziQ h0⟩
   ·obtain⟨x,hx,e⟩:=h.up j h1 h2;exact⟨x,List.mem_append_left _ hx,e⟩
  ·rename_i h0
   have hn:mv G l s ∉ p.1:=ziP.1 (by omega);obtain⟨new,hnew⟩:=h.pre;refine⟨⟨new++[mv G l s],by rw[hnew,List.append_assoc]⟩,?_,fun k hk=>?_,hs _,fun x hx=>?_,fun j h1 h2=>?_⟩
   ·refine List.nodup_iff_pairwise_ne.2 (List.pairwise_append.2 ⟨List.nodup_iff_pairwise_ne.1 h.nd,by simp,fun x hx y hy=>?_⟩);rw[List.mem_singleton.1 hy];exact fun q=>hn (q▸hx)
   ·rcases List.mem_append.1 hk with hk|hk
    ·exact h.it k hk
    ·rw[List.mem_singleton.1 hk];exact⟨zkG hl s,fun x hx=>mv_is hi hx⟩
   ·rcases List.mem_append.1 hx with hx|hx
    ·obtain⟨j,e1,e2⟩:=h.ed x hx;refine⟨j,e1,?_⟩;rw[List.getElem?_append_left (List.getElem?_eq_some_iff.1 e2).1];exact e2
    ·rw[List.mem_singleton.1 hx];exact⟨p.1.length,rfl,by simp⟩
   ·simp only[List.length_append,List.length_singleton]at h2;by_cases q:j<p.1.length
    ·obtain⟨x,hx,e⟩:=h.up j h1 q;exact⟨x,List.mem_append_left _ hx,e⟩
    ·exact⟨(s,(p.1.length:Int)),List.mem_append_right _ List.mem_cons_self,by simp only;omega⟩
theorem PInv.all {G:Gm.Gr} {ks:List (List It)} {l:List It} (hl:Srt l) (hi:∀x∈l,isI G x=true) (hn:ks.Nodup) (hk:∀k∈ks,Srt k/\∀x∈k,isI G x=true):∀(ss done:List Int) (p:List (List It)×List (Int×Int)),PInv G ks l done p->PInv G ks l (done++ss) (edges G l p ss)
 | [],done,p,h=>by simpa[edges] using h
 | s::ss,done,p,h=>by
  have:=PInv.all hl hi hn hk ss (done++[s]) _ (h.edge hl hi s)
  simpa[edges] using this
structure Inv (G:Gm.Gr) (ks:List (List It)) (es:List (List (Int×Int))):Prop where
 h0:ks[0]?=some [(-1,0)]
 nd:ks.Nodup
 it:∀k∈ks,Srt k/\∀x∈k,isI G x=true
 le:es.length<=ks.length
 ed:∀i (h:i<es.length),(es[i].map (·.1)=(syms G).filter fun s=>mv G (clo G (ks.getD i [])) s != [])/\∀e∈es[i],∃j:Nat,e.2=j/\ks[j]?=some (mv G (clo G (ks.getD i [])) e.1)
 up:∀j,0<j->j<ks.length->∃i,∃h:i<es.length,i<j/\∃e∈es[i],e.2=(j:Int)
theorem Inv.start (G:Gm.Gr):Inv G [[(-1,0)]] []:=by
 refine⟨rfl,by simp,fun k hk=>?_,by simp,fun i h=>absurd h (by simp),fun j h1 h2=>absurd h2 (by simp;omega)⟩;rw[List.mem_singleton.1 hk];refine⟨by simp[Srt],fun x hx=>?_⟩;rw[List.mem_singleton.1 hx,isI_iff];refine⟨⟨by decide,by simp only;omega⟩,by decide,?_⟩;simp only;omega
theorem Inv.step {G:Gm.Gr} {ks:List (List It)} {es:List (List (Int×Int))} (h:Inv G ks es) (hlt:es.length<ks.length):Inv G (one G ks es.length).1 (es++[(one G ks es.length).2]):=by
 have hp:=PInv.all (G:=G) (l:=clo G (ks.getD es.length [])) (zc4 _ _) (fun x hx=>clo_is hx) h.nd h.it (syms G) [] (ks,[]) ⟨⟨[],by simp⟩,h.nd,h.it,by simp,by simp,fun j h1 h2=>absurd h2 (by simp only;omega)⟩;rw[List.nil_append]at hp
 change PInv G ks (clo G (ks.getD es.length [])) (syms G) (one G ks es.length) at hp
 generalize one G ks es.length=p at *;obtain⟨new,hnew⟩:=hp.pre;have hlen:ks.length<=p.1.length:=by rw[hnew,List.length_append];omega
 have hat:∀i,i<ks.length->p.1.getD i []=ks.getD i []:=fun i hi=>by
  rw[List.getD_eq_getElem?_getD,List.getD_eq_getElem?_getD,hnew,List.getElem?_append_left hi]
 have hat2:∀i k,ks[i]?=some k->p.1[i]?=some k:=fun i k hk=>by
  rw[hnew,List.getElem?_append_left (List.getElem?_eq_some_iff.1 hk).1];exact hk
 refine⟨hat2 _ _ h.h0,hp.nd,hp.it,by simp;omega,fun i hi=>?_,fun j h1 h2=>?_⟩
 ·by_cases q:i<es.length
  ·rw[List.getElem_append_left q,hat i (by omega)];obtain⟨a,b⟩:=h.ed i q;refine⟨a,fun e he=>?_⟩;obtain⟨j,e1,e2⟩:=b e he;exact⟨j,e1,hat2 _ _ e2⟩
  ·have hi':i=es.length:=by simp at hi;omega
   subst hi';rw[hat _ hlt];simp only[List.getElem_append_right (Nat.le_refl _),Nat.sub_self,List.getElem_singleton];exact⟨hp.sy,hp.ed⟩
 ·by_cases q:j<ks.length
  ·obtain⟨i,hi,hij,e,he,e2⟩:=h.up j h1 q;exact⟨i,by simp;omega,hij,e,by rw[List.getElem_append_left hi];exact he,e2⟩
  ·obtain⟨e,he,e2⟩:=hp.up j (by omega) h2;exact⟨es.length,by simp,by omega,e,by simpa using he,e2⟩
theorem run_step {G:Gm.Gr} {ks:List (List It)} {es:List (List (Int×Int))} (h:es.length<ks.length) (h3:ks.length<=300):run G (302-es.length) ks es=if 300<(one G ks es.length).1.length then none else run G (302-(es++[(one G ks es.length).2]).length) (one G ks es.length).1 (es++[(one G ks es.length).2]):=by
 rw[show 302-es.length=(302-(es++[(one G ks es.length).2]).length)+1 by simp;omega,run,if_pos h]
theorem run_end {G:Gm.Gr} {ks:List (List It)} {es:List (List (Int×Int))} (h:es.length=ks.length) (h3:ks.length<=300):run G (302-es.length) ks es=some (ks,es):=by
 rw[show 302-es.length=(301-es.length)+1 by omega,run,if_neg (by omega)]
theorem zgd {G:Gm.Gr}:∀(f:Nat) (ks:List (List It)) (es:List (List (Int×Int))),Inv G ks es->ks.length<=300->∀K E,run G f ks es=some (K,E)->Inv G K E/\E.length=K.length/\K.length<=300
 | 0,_,_,_,_,_,_,h=>by cases h
 | f+1,ks,es,hi,h3,K,E,h=>by
  rw[run]at h;split at h
  ·rename_i hlt
   split at h
   ·cases h
   ·exact zgd f _ _ (hi.step hlt) (by omega) K E h
  ·injection h with h;injection h with h1 h2;subst h1 h2
   have:=hi.le
   exact⟨hi,by omega,h3⟩
theorem bld_inv {G:Gm.Gr} {K:List (List It)} {E:List (List (Int×Int))} (h:bld G=some (K,E)):Inv G K E/\E.length=K.length/\K.length<=300 :=
 zgd 302 _ _ (Inv.start G) (by simp) K E h
theorem nx_in {G:Gm.Gr} (hok:Gm.Ok G) {x:It} (hx:isI G x=true) {s:Int} (h:nx G x=some s):s∈syms G:=by
 rw[syms_mem,Gm.has_iff];have hi:=isI_iff.1 hx;have hs:s∈sy G x.1:=List.mem_of_getElem? h;unfold sy at hs;split at hs
 ·rw[List.mem_singleton.1 hs]
  have:=hok.s0
  have:=hok.s1
  omega
 ·rename_i hn
  have hlt:x.1.toNat<G.rs.length:=by omega
  rw[List.getD_eq_getElem?_getD,List.getElem?_eq_getElem hlt,Option.getD_some]at hs;have hr:=Gm.rule_in (hok.rr _ (List.getElem_mem hlt))
  have:=hr.2.2.2 s hs
  exact⟨this.1,this.2.1⟩
end Au
namespace Gm
abbrev Nu (G:Gr) (r:List Int):Prop:=Al false G.rs r
inductive Fs (G:Gr) (t:Int):Int->Prop
 | tm (x:Rl) (hx:x∈G.rs) (p q:List Int) (e:x.r=p++t::q) (h0:0<=t) (hp:Nu G p):Fs G t x.l
 | nt (x:Rl) (hx:x∈G.rs) (p:List Int) (z:Int) (q:List Int) (e:x.r=p++z::q) (hz:z<0) (hp:Nu G p) (h:Fs G t (-1-z)):Fs G t x.l
def Bg (G:Gr) (t:Int) (r:List Int):Prop:=∃p y q,r=p++y::q/\Nu G p/\(y=t/\0<=t\/y<0/\Fs G t (-1-y))
theorem Fs.of {G:Gr} {t:Int} {x:Rl} (hx:x∈G.rs) (h:Bg G t x.r):Fs G t x.l:=by
 obtain⟨p,y,q,e,hp,h|h⟩:=h
 ·exact .tm x hx p q (by rw[e,h.1]) h.2 hp
 ·exact .nt x hx p y q e h.1 hp h.2
theorem Fs.rule {G:Gr} {t j:Int} (h:Fs G t j):∃x∈G.rs,x.l=j/\Bg G t x.r:=by
 cases h with
 | tm x hx p q e h0 hp=>exact⟨x,hx,rfl,p,t,q,e,hp,.inl ⟨rfl,h0⟩⟩
 | nt x hx p z q e hz hp h=>exact⟨x,hx,rfl,p,z,q,e,hp,.inr ⟨hz,h⟩⟩
inductive Fw (G:Gr) (t:Int):Int->Prop
 | st (e:t=G.ts.length):Fw G t G.st
 | bg (x:Rl) (hx:x∈G.rs) (p:List Int) (z:Int) (q:List Int) (e:x.r=p++z::q) (hz:z<0) (h:Bg G t q):Fw G t (-1-z)
 | on (x:Rl) (hx:x∈G.rs) (p:List Int) (z:Int) (q:List Int) (e:x.r=p++z::q) (hz:z<0) (hq:Nu G q) (h:Fw G t x.l):Fw G t (-1-z)
theorem nu_cons {G:Gr} {z:Int} {r:List Int}:Nu G (z::r)↔(z<0/\Gn false G.rs (-1-z))/\Nu G r:=by
 constructor
 ·intro h
  have h1:z<0:=by
   rcases Int.lt_or_le z 0 with h2|h2
   ·exact h2
   ·exact absurd (h.1 z (List.mem_cons_self ..) h2) (by simp)
  exact⟨⟨h1,h.2 z (List.mem_cons_self ..) h1⟩,fun y hy=>h.1 y (List.mem_cons_of_mem _ hy),fun y hy=>h.2 y (List.mem_cons_of_mem _ hy)⟩
 ·rintro⟨⟨h1,h2⟩,h3⟩;refine⟨fun y hy h0=>?_,fun y hy h0=>?_⟩
  ·rcases List.mem_cons.1 hy with rfl|hy
   ·omega
   ·exact h3.1 y hy h0
  ·rcases List.mem_cons.1 hy with rfl|hy
   ·exact h2
   ·exact h3.2 y hy h0
theorem nu_nil (G:Gr):Nu G []:=⟨by simp,by simp⟩
theorem ziT {G:Gr} {t:Int}:¬Bg G t []:=by
 rintro⟨p,y,q,e,_⟩;cases p <;> cases e
theorem bg_cons {G:Gr} {t z:Int} {r:List Int}:Bg G t (z::r)↔(z=t/\0<=t\/z<0/\Fs G t (-1-z))\/(z<0/\Gn false G.rs (-1-z))/\Bg G t r:=by
 constructor
 ·rintro⟨p,y,q,e,hp,h⟩;cases p with
  | nil =>
   rw[List.nil_append]at e;injection e with e1 e2;subst e1;exact .inl h
  | cons u p =>
   rw[List.cons_append]at e;injection e with e1 e2;subst e1
   have:=nu_cons.1 hp
   exact .inr ⟨this.1,p,y,q,e2,this.2,h⟩
 ·rintro(h|⟨h1,p,y,q,e,hp,h⟩)
  ·exact⟨[],z,r,rfl,nu_nil G,h⟩
  ·exact⟨z::p,y,q,by rw[e];rfl,nu_cons.2 ⟨h1,hp⟩,h⟩
def ofB (nu:List Bool) (t:Int) (is:List Bool) (rest:Bool):List Int->Bool
 | []=>rest
 | z::r=>if 0<=z then z==t else is.getD (-1-z).toNat false||(nu.getD (-1-z).toNat false&&ofB nu t is rest r)
def ziZ (P:Int->Prop) (is:List Bool):Prop:=∀i:Nat,is.getD i false=true->P (i:Int)
theorem ziZ.none (P:Int->Prop) (n:Nat):ziZ P (List.replicate n false):=fun i h=>by
 rw[List.getD_eq_getElem?_getD,List.getElem?_replicate]at h;split at h <;> cases h
theorem zgx {G:Gr} {t:Int} {is:List Bool} {rest:Bool} {r:List Int} {n:Nat} (hl:Lin n G.rs) (hs:ziZ (Fs G t) is) (ht:0<=t) (h:ofB (gn false G.rs n) t is rest r=true):Bg G t r\/Nu G r/\rest=true:=by
 induction r with
 | nil=>exact .inr ⟨nu_nil G,h⟩
 | cons z r ih =>
  rw[ofB]at h;by_cases h0:0<=z
  ·rw[if_pos h0]at h;exact .inl (bg_cons.2 (.inl (.inl ⟨by simpa using h,ht⟩)))
  ·rw[if_neg h0]at h;rw[Bool.or_eq_true,Bool.and_eq_true]at h;rcases h with h|⟨h1,h2⟩
   ·have:=hs _ h
    rw[Int.toNat_of_nonneg (by omega)]at this;exact .inl (bg_cons.2 (.inl (.inr ⟨by omega,this⟩)))
   ·have h3:=(zcz hl (by omega)).1 h1;rcases ih h2 with h4|h4
    ·exact .inl (bg_cons.2 (.inr ⟨⟨by omega,h3⟩,h4⟩))
    ·exact .inr ⟨nu_cons.2 ⟨⟨by omega,h3⟩,h4.1⟩,h4.2⟩
theorem zjx {G:Gr} {t:Int} {is:List Bool} {rest:Bool} {r:List Int} {n:Nat} (hl:Lin n G.rs) (hc:∀j,Fs G t j->is.getD j.toNat false=true) (h:Bg G t r\/Nu G r/\rest=true):ofB (gn false G.rs n) t is rest r=true:=by
 induction r with
 | nil =>
  rcases h with h|h
  ·exact absurd h ziT
  ·exact h.2
 | cons z r ih =>
  rw[ofB];by_cases h0:0<=z
  ·rw[if_pos h0];rcases h with h|h
   ·rcases bg_cons.1 h with(h|h)|h
    ·simpa using h.1
    ·omega
    ·omega
   ·have:=(nu_cons.1 h.1).1.1;omega
  ·rw[if_neg h0,Bool.or_eq_true,Bool.and_eq_true];rcases h with h|h
   ·rcases bg_cons.1 h with(h|h)|h
    ·omega
    ·exact .inl (hc _ h.2)
    ·exact .inr ⟨(zcz hl (by omega)).2 h.1.2,ih (.inl h.2)⟩
   ·have h1:=nu_cons.1 h.1;exact .inr ⟨(zcz hl (by omega)).2 h1.1.2,ih (.inr ⟨h1.2,h.2⟩)⟩
theorem zjw {G:Gr} {t:Int} {is:List Bool} {rest:Bool} {r:List Int} {n:Nat} (hl:Lin n G.rs) (hs:ziZ (Fs G t) is) (hc:∀j,Fs G t j->is.getD j.toNat false=true) (ht:0<=t):ofB (gn false G.rs n) t is rest r=true↔Bg G t r\/Nu G r/\rest=true:=⟨zgx hl hs ht,zjx hl hc⟩
def ClsF (G:Gr) (n:Nat) (t:Int) (is:List Bool):Prop:=∀x∈G.rs,ofB (gn false G.rs n) t is false x.r=true->is.getD x.l.toNat false=true
theorem zgy {nu:List Bool} {t:Int} {is:List Bool} {rest:Bool} {p:List Int} {y:Int} {q:List Int} (hp:∀z∈p,z<0/\nu.getD (-1-z).toNat false=true) (h:ofB nu t is rest (y::q)=true):ofB nu t is rest (p++y::q)=true:=by
 induction p with
 | nil=>exact h
 | cons z p ih =>
  rw[List.cons_append,ofB];have h1:=hp z (List.mem_cons_self ..);rw[if_neg (by omega),h1.2,ih (fun z hz=>hp z (List.mem_cons_of_mem _ hz))];simp
theorem ziG {G:Gr} {n:Nat} (hl:Lin n G.rs) {p:List Int} (h:Nu G p):∀z∈p,z<0/\(gn false G.rs n).getD (-1-z).toNat false=true:=fun z hz=>by
 have h1:z<0:=by
  rcases Int.lt_or_le z 0 with h2|h2
  ·exact h2
  ·exact absurd (h.1 z hz h2) (by simp)
 exact⟨h1,(zcz hl (by omega)).2 (h.2 z hz h1)⟩
theorem ziO {G:Gr} {n:Nat} {t:Int} {is:List Bool} (hl:Lin n G.rs) (h:ClsF G n t is) {j:Int} (hj:Fs G t j):is.getD j.toNat false=true:=by
 induction hj with
 | tm x hx p q e h0 hp =>
  refine h x hx ?_;rw[e];refine zgy (ziG hl hp) ?_;rw[ofB,if_pos h0];simp
 | nt x hx p z q e hz hp _ ih =>
  refine h x hx ?_;rw[e];refine zgy (ziG hl hp) ?_;rw[ofB,if_neg (by omega),ih];rfl
def zay (nu:List Bool) (t:Int) (is:List Bool) (x:Rl):List Bool:=if ofB nu t is false x.r=true then is.set x.l.toNat true else is
theorem zdH (nu:List Bool) (t:Int) (is:List Bool) (x:Rl):Le is (zay nu t is x):=by
 unfold zay;split
 ·exact Le.set _ _
 ·exact Le.refl _
theorem zb7 {G:Gr} {n:Nat} {t:Int} (hl:Lin n G.rs) (ht:0<=t):∀(xs:List Rl) (is:List Bool),(∀x∈xs,x∈G.rs)->ziZ (Fs G t) is->ziZ (Fs G t) (xs.foldl (zay (gn false G.rs n) t) is)
 | [],_,_,h=>h
 | x::xs,is,hx,h=>by
  refine zb7 hl ht xs _ (fun y hy=>hx y (List.mem_cons_of_mem _ hy)) ?_;have hm:=hx x (List.mem_cons_self ..);unfold zay;split
  ·rename_i e
   intro i hi;rcases getD_set _ _ _ hi with h1|h1
   ·exact h i h1
   ·rw[h1,Int.toNat_of_nonneg (hl x hm).1];rcases zgx hl h ht e with h2|h2
    ·exact .of hm h2
    ·cases h2.2
  ·exact h
theorem zg3 {G:Gr} {n:Nat} {t:Int} (hl:Lin n G.rs) (ht:0<=t) (i:Nat):(aW (fun s=>G.rs.foldl (zay (gn false G.rs n) t) s) n (List.replicate n false)).getD i false=true↔Fs G t (i:Int):=by
 have hle:∀s,Le s (G.rs.foldl (zay (gn false G.rs n) t) s):=fun s=>za3 _ (zdH _ _) G.rs s;have h0:(List.replicate n false).length=n:=by simp
 have hfix:=zbO hle (List.replicate n false);rw[h0]at hfix;have hl2:(aW (fun s=>G.rs.foldl (zay (gn false G.rs n) t) s) n (List.replicate n false)).length=n:=by rw[<-(zbb hle n _).len,h0]
 constructor
 ·have:∀k,ziZ (Fs G t) (aW (fun s=>G.rs.foldl (zay (gn false G.rs n) t) s) k (List.replicate n false)):=by
   intro k;induction k with
   | zero=>exact ziZ.none _ n
   | succ k ih=>exact zb7 hl ht G.rs _ (fun _ h=>h) ih
  exact this n i
 ·intro h
  have:=ziO hl (n:=n) (is:=aW (fun s=>G.rs.foldl (zay (gn false G.rs n) t) s) n (List.replicate n false)) ?_ h
  ·simpa using this
  ·intro x hx e
   have:=zbh _ (zdH _ _) G.rs _ hfix x hx
   generalize aW (fun s=>G.rs.foldl (zay (gn false G.rs n) t) s) n (List.replicate n false)=S at *;rw[zay,if_pos e]at this;rw[<-this]
   have:=hl x hx
   exact set_getD _ _ (by omega)
end Gm
namespace Au
def rest (G:Gm.Gr) (x:It):List Int:=(sy G x.1).drop (x.2.toNat+1)
def Ed (E:List (List (Int×Int))) (i:Nat) (s:Int) (j:Nat):Prop:=∃h:i<E.length,(s,(j:Int))∈E[i]
inductive La (G:Gm.Gr) (E:List (List (Int×Int))):Nat->It->Int->Prop
 | st:La G E 0 (-1,0) G.ts.length
 | bg (i:Nat) (x:It) (t s:Int) (h:La G E i x t) (hs:nx G x=some s) (h0:s<0) (k:Nat) (hk:k<G.rs.length) (hl:(G.rs[k]).l = -1-s) (u:Int) (hu:Gm.Bg G u (rest G x)):La G E i ((k:Int),0) u
 | nu (i:Nat) (x:It) (t s:Int) (h:La G E i x t) (hs:nx G x=some s) (h0:s<0) (k:Nat) (hk:k<G.rs.length) (hl:(G.rs[k]).l = -1-s) (hn:Gm.Nu G (rest G x)):La G E i ((k:Int),0) t
 | mv (i:Nat) (x:It) (t s:Int) (h:La G E i x t) (hs:nx G x=some s) (j:Nat) (he:Ed E i s j):La G E j (x.1,x.2+1) t
theorem zf4 {G:Gm.Gr} {k:Nat} (hk:k<G.rs.length):sy G (k:Int)=(G.rs[k]).r:=by
 unfold sy;rw[if_neg (by omega),Int.toNat_natCast,List.getD_eq_getElem?_getD,List.getElem?_eq_getElem hk,Option.getD_some]
section
variable {G:Gm.Gr} {K:List (List It)} {E:List (List (Int×Int))}
theorem Inv.edge (h:Inv G K E) (hE:E.length=K.length) (hok:Gm.Ok G) {i:Nat} (hi:i<K.length) {x:It} (hx:x∈clo G (K.getD i [])) {s:Int} (hs:nx G x=some s):∃j:Nat,Ed E i s j/\K[j]?=some (mv G (clo G (K.getD i [])) s):=by
 obtain⟨h1,h2⟩:=h.ed i (by omega)
 have hm:s∈E[i].map (·.1):=by
  rw[h1,List.mem_filter];refine⟨nx_in hok (clo_is hx) hs,?_⟩
  have:(x.1,x.2+1)∈mv G (clo G (K.getD i [])) s:=zdz.2 ⟨x,hx,hs,rfl⟩
  simp only[bne_iff_ne,ne_eq];exact fun e=>by rw[e]at this;cases this
 obtain⟨e,he,rfl⟩:=List.mem_map.1 hm;obtain⟨j,e1,e2⟩:=h2 e he;exact⟨j,⟨by omega,by rw[<-e1];exact he⟩,e2⟩
theorem Inv.to (h:Inv G K E) {i j:Nat} {s:Int} (he:Ed E i s j):K[j]?=some (mv G (clo G (K.getD i [])) s):=by
 obtain⟨hi,he⟩:=he;obtain⟨k,e1,e2⟩:=(h.ed i hi).2 _ he;simp only at e1 e2;obtain rfl:j=k:=by omega
 exact e2
theorem Inv.its (h:Inv G K E) {i:Nat} (hi:i<K.length):∀x∈K.getD i [],isI G x=true:=by
 rw[List.getD_eq_getElem?_getD,List.getElem?_eq_getElem hi,Option.getD_some];exact(h.it _ (List.getElem_mem hi)).2
theorem la_in (h:Inv G K E) {i:Nat} {x:It} {t:Int} (hl:La G E i x t):i<K.length/\x∈clo G (K.getD i []):=by
 induction hl with
 | st =>
  have h0:=List.getElem?_eq_some_iff.1 h.h0;refine⟨h0.1,(zaA (h.its h0.1)).2 (.of _ ?_)⟩;rw[List.getD_eq_getElem?_getD,h.h0,Option.getD_some];exact List.mem_cons_self
 | bg i x t s _ hs h0 k hk hl u _ ih=>exact⟨ih.1,(zaA (h.its ih.1)).2 (.on x ((zaA (h.its ih.1)).1 ih.2) s hs h0 k hk hl)⟩
 | nu i x t s _ hs h0 k hk hl _ ih=>exact⟨ih.1,(zaA (h.its ih.1)).2 (.on x ((zaA (h.its ih.1)).1 ih.2) s hs h0 k hk hl)⟩
 | mv i x t s _ hs j he ih =>
  have h1:=h.to he;have h2:=List.getElem?_eq_some_iff.1 h1;refine⟨h2.1,(zaA (h.its h2.1)).2 (.of _ ?_)⟩;rw[List.getD_eq_getElem?_getD,h1,Option.getD_some];exact zdz.2 ⟨x,ih.2,hs,rfl⟩
theorem zmk {j:Int} (h:Gm.Gn true G.rs j):Gm.Gn false G.rs j \/ ∃t,Gm.Fs G t j:=by
 induction h with
 | mk x hx ht hn ih =>
  have key:∀q p:List Int,x.r=p++q->Gm.Nu G p->Gm.Nu G x.r \/ ∃t,Gm.Fs G t x.l:=by
   intro q;induction q with
   | nil=>intro p e hp;rw[e,List.append_nil];exact .inl hp
   | cons z q ihq =>
    intro p e hp;have hz:z∈x.r:=by rw[e];exact List.mem_append_right _ List.mem_cons_self
    by_cases h0:0<=z
    ·exact .inr ⟨z,.tm x hx p q e h0 hp⟩
    ·rcases ih z hz (by omega) with h1|⟨t,h1⟩
     ·refine ihq (p++[z]) (by rw[e];simp) ⟨fun y hy hy0=>?_,fun y hy hy0=>?_⟩
      ·rcases List.mem_append.1 hy with hy|hy
       ·exact hp.1 y hy hy0
       ·rw[List.mem_singleton.1 hy]at hy0;omega
      ·rcases List.mem_append.1 hy with hy|hy
       ·exact hp.2 y hy hy0
       ·rw[List.mem_singleton.1 hy];exact h1
     ·exact .inr ⟨t,.nt x hx p z q e (by omega) hp h1⟩
  rcases key x.r [] rfl (Gm.nu_nil G) with h1|h1
  ·exact .inl (.of hx h1)
  ·exact .inr h1
theorem zjV:∀ {r:List Int},(∀z∈r,z<0->Gm.Gn true G.rs (-1-z))->Gm.Nu G r \/ ∃t,Gm.Bg G t r
 | [],_=>.inl (Gm.nu_nil G)
 | z::r,h=>by
  by_cases h0:0<=z
  ·exact .inr ⟨z,Gm.bg_cons.2 (.inl (.inl ⟨rfl,h0⟩))⟩
  ·rcases zmk (h z List.mem_cons_self (by omega)) with h1|⟨t,h1⟩
   ·rcases zjV (r:=r) (fun y hy=>h y (List.mem_cons_of_mem _ hy)) with h2|⟨t,h2⟩
    ·exact .inl (Gm.nu_cons.2 ⟨⟨by omega,h1⟩,h2⟩)
    ·exact .inr ⟨t,Gm.bg_cons.2 (.inr ⟨⟨by omega,h1⟩,h2⟩)⟩
   ·exact .inr ⟨t,Gm.bg_cons.2 (.inl (.inr ⟨by omega,h1⟩))⟩
theorem zkW (h:Inv G K E) (hE:E.length=K.length) (hp:∀x∈G.rs,Gm.Al true G.rs x.r):∀i,i<K.length->∀x∈clo G (K.getD i []),∃t,La G E i x t:=by
 have key:∀i,i<K.length->(∀x∈K.getD i [],∃t,La G E i x t)->∀x∈clo G (K.getD i []),∃t,La G E i x t:=by
  intro i hi hk x hx;have hx2:=(zaA (h.its hi)).1 hx;clear hx;induction hx2 with
  | of x hx=>exact hk x hx
  | on x hcl s hs h0 k hk2 hl ih =>
   obtain⟨t,ht⟩:=ih;have hxi:=isI_iff.1 (cl_is (h.its hi) hcl)
   have hrest:∀z∈rest G x,z<0->Gm.Gn true G.rs (-1-z):=by
    intro z hz hz0;have hz2:=List.mem_of_mem_drop hz;by_cases e:x.1 = -1
    ·have hsy:sy G x.1=[-1-G.st]:=by rw[e];rfl
     unfold rest at hz;rw[hsy]at hz;rw[List.drop_eq_nil_of_le (by simp)]at hz;cases hz
    ·obtain⟨m,hm⟩:∃m:Nat,x.1=(m:Int):=⟨x.1.toNat,by omega⟩
     have hml:m<G.rs.length:=by omega
     rw[hm,zf4 hml]at hz2;exact(hp _ (List.getElem_mem hml)).2 z hz2 hz0
   rcases zjV (G:=G) hrest with hq|⟨u,hq⟩
   ·exact⟨t,.nu i x t s ht hs h0 k hk2 hl hq⟩
   ·exact⟨u,.bg i x t s ht hs h0 k hk2 hl u hq⟩
 intro i;induction i using Nat.strongRecOn with
 | _ i ih =>
  intro hi;refine key i hi fun x hx=>?_;by_cases e:i=0
  ·subst e;rw[List.getD_eq_getElem?_getD,h.h0,Option.getD_some,List.mem_singleton]at hx;rw[hx];exact⟨_,.st⟩
  ·obtain⟨m,hm,hmi,⟨s,j⟩,he,e2⟩:=h.up i (by omega) hi;simp only at e2;subst e2;have hed:Ed E m s i:=⟨hm,he⟩
   have hto:=h.to hed;rw[List.getD_eq_getElem?_getD,hto,Option.getD_some]at hx;obtain⟨y,hy,hys,rfl⟩:=zdz.1 hx;obtain⟨t,ht⟩:=ih m hmi (by omega) y hy;exact⟨t,.mv m y t s ht hys i hed⟩
end
end Au
end Go.Proofs.YtcmhaemaophplaaGreat
namespace Go.Proofs.YtcmhaemaophplaaGreat
set_option maxRecDepth 100000
set_option maxHeartbeats 40000000
open Go.RowKit
namespace Gm
def ofN (nu:List Bool) (fs:List Nat) (rest:Nat):List Int->Nat
 | []=>rest
 | z::r=>if 0<=z then 2 ^ z.toNat else fs.getD (-1-z).toNat 0 ||| (if nu.getD (-1-z).toNat false=true then ofN nu fs rest r else 0)
def bt (t:Nat) (s:List Nat):List Bool:=s.map fun v=>v.testBit t
theorem zlx (t:Nat) (s:List Nat):(bt t s).length=s.length:=by simp[bt]
theorem zbk (t:Nat) (s:List Nat) (i:Nat):(bt t s).getD i false=(s.getD i 0).testBit t:=by
 unfold bt;rw[List.getD_eq_getElem?_getD,List.getD_eq_getElem?_getD,List.getElem?_map];cases s[i]? <;> simp
theorem zlw (t:Nat) (s:List Nat) (i v:Nat):bt t (s.set i v)=(bt t s).set i (v.testBit t):=by unfold bt;rw[List.map_set]
theorem zd8 (nu:List Bool) (fs:List Nat) (rest t:Nat):∀r,(ofN nu fs rest r).testBit t=ofB nu t (bt t fs) (rest.testBit t) r
 | []=>rfl
 | z::r=>by
  rw[ofN,ofB];by_cases h0:0<=z
  ·rw[if_pos h0,if_pos h0,Nat.testBit_two_pow];by_cases e:z.toNat=t
   ·rw[decide_eq_true e,show z=(t:Int) by omega];simp
   ·rw[decide_eq_false e];exact(beq_eq_false_iff_ne.2 (by omega)).symm
  ·rw[if_neg h0,if_neg h0,Nat.testBit_or,zbk,<-zd8 nu fs rest t r];by_cases e:nu.getD (-1-z).toNat false=true
   ·rw[if_pos e,e];rfl
   ·rw[if_neg e,Bool.not_eq_true _ |>.mp e];simp
def zck (f:List Nat->List Nat):Nat->List Nat->List Nat
 | 0,s=>s
 | n+1,s=>f (zck f n s)
theorem ziq {t:Nat} {f:List Nat->List Nat} {g:List Bool->List Bool} (h:∀s,bt t (f s)=g (bt t s)) (n:Nat) (s:List Nat):bt t (zck f n s)=aW g n (bt t s):=by
 induction n with
 | zero=>rfl
 | succ n ih=>rw[zck,aW,h,ih]
theorem zhl {α:Type} {t:Nat} {f:List Nat->α->List Nat} {g:List Bool->α->List Bool} (h:∀s x,bt t (f s x)=g (bt t s) x):∀(xs:List α) (s:List Nat),bt t (xs.foldl f s)=xs.foldl g (bt t s)
 | [],_=>rfl
 | x::xs,s=>by rw[List.foldl_cons,List.foldl_cons,zhl h xs,h]
def addN (s:List Nat) (i v:Nat):List Nat:=s.set i (s.getD i 0 ||| v)
theorem zhJ (s:List Bool) (i:Nat):s.set i (s.getD i false)=s:=by
 rcases Nat.lt_or_ge i s.length with h|h
 ·rw[List.getD_eq_getElem?_getD,List.getElem?_eq_getElem h];simp
 ·rw[List.set_eq_of_length_le h]
theorem zly (t:Nat) (s:List Nat) (i v:Nat):bt t (addN s i v)=if v.testBit t=true then(bt t s).set i true else bt t s:=by
 unfold addN;rw[zlw,Nat.testBit_or,<-zbk];cases v.testBit t
 ·rw[Bool.or_false,zhJ];rfl
 ·rw[Bool.or_true];rfl
def firstN1 (nu:List Bool) (s:List Nat) (x:Rl):List Nat:=addN s x.l.toNat (ofN nu s 0 x.r)
theorem zbq (nu:List Bool) (t:Nat) (s:List Nat) (x:Rl):bt t (firstN1 nu s x)=zay nu t (bt t s) x:=by
 unfold firstN1 zay;rw[zly,zd8,Nat.zero_testBit]
noncomputable def fst (G:Gr):List Nat:=zck (fun s=>G.rs.foldl (firstN1 (gn false G.rs G.ns.length)) s) G.ns.length (List.replicate G.ns.length 0)
theorem zhk (t n:Nat):bt t (List.replicate n 0)=List.replicate n false:=by simp[bt]
theorem fst_bit {G:Gr} (hl:Lin G.ns.length G.rs) (i t:Nat):((fst G).getD i 0).testBit t=true↔Fs G t (i:Int):=by
 rw[<-zbk];unfold fst;rw[ziq (g:=fun s=>G.rs.foldl (zay (gn false G.rs G.ns.length) t) s) (fun s=>zhl (zbq _ t) _ s),zhk];exact zg3 hl (by omega) i
theorem zfd {f:List Nat->List Nat} (h:∀s,(f s).length=s.length) (n:Nat) (s:List Nat):(zck f n s).length=s.length:=by
 induction n with
 | zero=>rfl
 | succ n ih=>rw[zck,h,ih]
theorem zeS {α:Type} {f:List Nat->α->List Nat} (h:∀s x,(f s x).length=s.length):∀(xs:List α) (s:List Nat),(xs.foldl f s).length=s.length
 | [],_=>rfl
 | x::xs,s=>by rw[List.foldl_cons,zeS h xs,h]
theorem addN_len (s:List Nat) (i v:Nat):(addN s i v).length=s.length:=by simp[addN]
theorem fst_len (G:Gr):(fst G).length=G.ns.length:=by
 unfold fst
 have:∀s:List Nat,(G.rs.foldl (firstN1 (gn false G.rs G.ns.length)) s).length=s.length:=fun s=>zeS (fun s x=>addN_len _ _ _) _ s
 rw[zfd this];simp
theorem zhI {a b:List Nat} (hl:a.length=b.length) (h:∀i t:Nat,(a.getD i 0).testBit t=true↔(b.getD i 0).testBit t=true):a=b:=by
 refine List.ext_getElem hl fun i h1 h2=>Nat.eq_of_testBit_eq fun t=>?_
 have:=h i t
 rw[List.getD_eq_getElem?_getD,List.getD_eq_getElem?_getD,List.getElem?_eq_getElem h1,List.getElem?_eq_getElem h2]at this;exact Bool.eq_iff_iff.2 this
theorem fs_lt {G:Gr} (h:Ok G) {t:Int} {j:Int} (hj:Fs G t j):t<G.ts.length:=by
 induction hj with
 | tm x hx p q e h0 hp=>exact((rule_in (h.rr x hx)).2.2.2 t (by rw[e];simp)).1
 | nt x hx p z q e hz hp _ ih=>exact ih
theorem zir {G:Gr} (h:Ok G) {t:Int} {r:List Int} (hr:∀z∈r,z<G.ts.length) (hj:Bg G t r):t<G.ts.length:=by
 obtain⟨p,y,q,e,_,h1|h1⟩:=hj
 ·rw[<-h1.1];exact hr y (by rw[e];simp)
 ·exact fs_lt h h1.2
theorem zat {G:Gr} (hl:Lin G.ns.length G.rs) (rest t:Nat) (r:List Int):(ofN (gn false G.rs G.ns.length) (fst G) rest r).testBit t=true↔Bg G t r\/Nu G r/\rest.testBit t=true:=by
 rw[zd8];refine zjw hl (fun i hi=>?_) (fun j hj=>?_) (by omega)
 ·rw[zbk]at hi;exact(fst_bit hl i t).1 hi
 ·rw[zbk];refine(fst_bit hl j.toNat t).2 ?_;obtain⟨x,hx,rfl,_⟩:=hj.rule;rw[Int.toNat_of_nonneg (hl x hx).1];exact hj
end Gm
namespace Gm
def NLe (a b:List Nat):Prop:=a.length=b.length/\∀i:Nat,a.getD i 0<=b.getD i 0
theorem NLe.refl (a:List Nat):NLe a a:=⟨rfl,fun _=>Nat.le_refl _⟩
theorem NLe.trans {a b c:List Nat} (h:NLe a b) (k:NLe b c):NLe a c:=⟨h.1.trans k.1,fun i=>Nat.le_trans (h.2 i) (k.2 i)⟩
theorem NLe.anti {a b:List Nat} (h:NLe a b) (k:NLe b a):b=a:=by
 refine List.ext_getElem k.1 fun i h1 h2=>?_;have e1:=h.2 i;have e2:=k.2 i;rw[List.getD_eq_getElem?_getD,List.getD_eq_getElem?_getD,List.getElem?_eq_getElem h1,List.getElem?_eq_getElem h2]at e1 e2;simp only[Option.getD_some]at e1 e2;omega
theorem NLe.addN (s:List Nat) (i v:Nat):NLe s (addN s i v):=by
 refine⟨(addN_len s i v).symm,fun j=>?_⟩;unfold Gm.addN;by_cases e:i=j
 ·subst e;rcases Nat.lt_or_ge i s.length with h|h
  ·rw[List.getD_eq_getElem?_getD,List.getD_eq_getElem?_getD,List.getElem?_set_self h,Option.getD_some];exact Nat.left_le_or
  ·rw[List.set_eq_of_length_le h];exact Nat.le_refl _
 ·rw[List.getD_eq_getElem?_getD,List.getD_eq_getElem?_getD,List.getElem?_set_ne e];exact Nat.le_refl _
theorem NLe.fold {α:Type} {f:List Nat->α->List Nat} (h:∀s x,NLe s (f s x)):∀(xs:List α) (s:List Nat),NLe s (xs.foldl f s)
 | [],s=>.refl s
 | x::xs,s=>(h s x).trans (NLe.fold h xs _)
theorem fold_rest {α:Type} {f:List Nat->α->List Nat} (h:∀s x,NLe s (f s x)):∀(xs:List α) (s:List Nat),xs.foldl f s=s->∀x∈xs,f s x=s
 | [],_,_,_,hx=>by cases hx
 | y::ys,s,e,x,hx=>by
  rw[List.foldl_cons]at e;have h1:f s y=s:=NLe.anti (h s y) (by have:=NLe.fold h ys (f s y);rwa [e]at this);rw[h1]at e;rcases List.mem_cons.1 hx with rfl|hx
  ·exact h1
  ·exact fold_rest h ys s e x hx
theorem ziA:∀ {a b:List Nat},NLe a b->a.sum<=b.sum/\(a.sum=b.sum->a=b)
 | [],[],_=>⟨Nat.le_refl _,fun _=>rfl⟩
 | [],_::_,h=>by cases h.1
 | _::_,[],h=>by cases h.1
 | x::a,y::b,h=>by
  have h1:NLe a b:=⟨by simpa using h.1,fun i=>by have:=h.2 (i+1);simpa using this⟩
  have h2:x<=y:=by have:=h.2 0;simpa using this
  have:=ziA h1
  simp only[List.sum_cons];refine⟨by omega,fun e=>?_⟩;rw[this.2 (by omega),show x=y by omega]
def gap (s:List Nat):Nat:=(s.map fun v=>4294967296-v).sum
def U32 (s:List Nat):Prop:=∀i:Nat,s.getD i 0<4294967296
theorem zej:∀ {s:List Nat},U32 s->gap s+s.sum=s.length*4294967296
 | [],_=>rfl
 | x::s,h=>by
  have h1:U32 s:=fun i=>by have:=h (i+1);simpa using this
  have h2:x<4294967296:=by have:=h 0;simpa using this
  have:=zej h1
  unfold gap at this ⊢;simp only[List.map_cons,List.sum_cons,List.length_cons];omega
theorem gap_lt {a b:List Nat} (h:NLe a b) (hb:U32 b) (hn:a≠b):gap b<gap a:=by
 have ha:U32 a:=fun i=>Nat.lt_of_le_of_lt (h.2 i) (hb i);have h1:=zej ha;have h2:=zej hb;have h3:=ziA h;have h4:a.sum≠b.sum:=fun e=>hn (h3.2 e);rw[h.1]at h1;omega
theorem or32 {a b:Nat} (ha:a<4294967296) (hb:b<4294967296):a ||| b<4294967296:=by
 have:=Nat.or_lt_two_pow (n:=32) (x:=a) (y:=b) (by omega) (by omega);omega
theorem U32.addN {s:List Nat} (h:U32 s) (i:Nat) {v:Nat} (hv:v<4294967296):U32 (addN s i v):=fun j=>by
 unfold Gm.addN;by_cases e:i=j
 ·subst e;rcases Nat.lt_or_ge i s.length with hl|hl
  ·rw[List.getD_eq_getElem?_getD,List.getElem?_set_self hl,Option.getD_some];exact or32 (h i) hv
  ·rw[List.set_eq_of_length_le hl];exact h i
 ·rw[List.getD_eq_getElem?_getD,List.getElem?_set_ne e,<-List.getD_eq_getElem?_getD];exact h j
theorem U32.ofN {nu:List Bool} {fs:List Nat} {rest:Nat} (hf:U32 fs) (hr:rest<4294967296):∀ {r:List Int},(∀z∈r,z<=31)->ofN nu fs rest r<4294967296
 | [],_=>hr
 | z::r,h=>by
  rw[Gm.ofN];split
  ·have:=Nat.pow_le_pow_right (n:=2) (by decide) (show z.toNat<=31 by have:=h z (List.mem_cons_self ..);omega)
   omega
  ·refine or32 (hf _) ?_;split
   ·exact U32.ofN hf hr fun y hy=>h y (List.mem_cons_of_mem _ hy)
   ·decide
theorem new_iff {a v:Nat} (ha:a<4294967296) (hv:v<4294967296):(v &&& (4294967295-a)=0)↔a ||| v=a:=by
 have hb:∀t,t<32->(4294967295-a).testBit t = !a.testBit t:=fun t ht=>by
  have:=Nat.testBit_two_pow_sub_succ (n:=32) (x:=a) (by omega) t
  rw[show 2 ^ 32-(a+1)=4294967295-a by omega]at this;rw[this,decide_eq_true ht,Bool.true_and]
 constructor
 ·intro h;refine Nat.eq_of_testBit_eq fun t=>?_;rw[Nat.testBit_or];by_cases ht:t<32
  ·have h1:=congrArg (fun z=>z.testBit t) h;simp only[Nat.testBit_and,Nat.zero_testBit]at h1;rw[hb t ht]at h1
   revert h1
   generalize a.testBit t=p;generalize v.testBit t=q;cases p <;> cases q <;> simp
  ·rw[Nat.testBit_lt_two_pow (x:=v) (Nat.lt_of_lt_of_le hv (by have:=Nat.pow_le_pow_right (n:=2) (by decide) (show 32<=t by omega);omega))];simp
 ·intro h;refine Nat.eq_of_testBit_eq fun t=>?_;rw[Nat.testBit_and,Nat.zero_testBit];by_cases ht:t<32
  ·rw[hb t ht];have h1:=congrArg (fun z=>z.testBit t) h;simp only[Nat.testBit_or]at h1
   revert h1
   generalize a.testBit t=p;generalize v.testBit t=q;cases p <;> cases q <;> simp
  ·rw[Nat.testBit_lt_two_pow (x:=v) (Nat.lt_of_lt_of_le hv (by have:=Nat.pow_le_pow_right (n:=2) (by decide) (show 32<=t by omega);omega))];simp
theorem addN_same {s:List Nat} {i v:Nat} (h:i<s.length):addN s i v=s↔s.getD i 0 ||| v=s.getD i 0:=by
 unfold addN
 constructor
 ·intro e
  have:=congrArg (fun l=>l.getD i 0) e
  simp only[List.getD_eq_getElem?_getD,List.getElem?_set_self h,Option.getD_some]at this
  simpa[List.getD_eq_getElem?_getD] using this
 ·intro e;rw[e,List.getD_eq_getElem?_getD,List.getElem?_eq_getElem h];simp
theorem fst_row {G:Gr} (hl:Lin G.ns.length G.rs) {s:List Nat} (hn:s.length=G.ns.length) (hs:∀i t:Nat,(s.getD i 0).testBit t=true->Fs G t (i:Int)) (hc:∀x∈G.rs,firstN1 (gn false G.rs G.ns.length) s x=s):s=fst G:=by
 refine zhI (by rw[hn,fst_len]) fun i t=>⟨fun h=>(fst_bit hl i t).2 (hs i t h),fun h=>?_⟩
 have h1:=ziO hl (n:=G.ns.length) (is:=bt t s) (fun x hx e=>?_) ((fst_bit hl i t).1 h)
 ·rw[zbk]at h1;simpa using h1
 ·have h2:=congrArg (bt t) (hc x hx);rw[zbq,zay,if_pos e]at h2;rw[<-h2]
  have:=hl x hx
  exact set_getD _ _ (by rw[zlx];omega)
theorem fst_step {G:Gr} (hl:Lin G.ns.length G.rs) {s:List Nat} (hs:∀i t:Nat,(s.getD i 0).testBit t=true->Fs G t (i:Int)) {x:Rl} (hx:x∈G.rs) (i t:Nat) (h:((firstN1 (gn false G.rs G.ns.length) s x).getD i 0).testBit t=true):Fs G t (i:Int):=by
 have h1:=zb7 hl (t:=t) (by omega) [x] (bt t s) (fun y hy=>by rw[List.mem_singleton.1 hy];exact hx) (fun j hj=>by rw[zbk]at hj;exact hs j t hj);rw[List.foldl_cons,List.foldl_nil,<-zbq]at h1;exact h1 i (by rw[zbk];exact h)
theorem none_bit (n i t:Nat):((List.replicate n 0).getD i 0).testBit t=false:=by
 have:=zbk t (List.replicate n 0) i
 rw[zhk]at this;rw[<-this];by_cases h:i<n
 ·rw[List.getD_eq_getElem?_getD,List.getElem?_replicate,if_pos h];rfl
 ·rw[List.getD_eq_getElem?_getD,List.getElem?_replicate,if_neg h];rfl
end Gm
namespace Lk
open Au Gm
abbrev SS:=List (List Nat)
def At (L:List (List It)) (S:SS) (q:Nat) (x:It) (t:Nat):Prop:=∃i:Nat,(L.getD q [])[i]?=some x/\((S.getD q []).getD i 0).testBit t=true
def Snd (G:Gr) (E:List (List (Int×Int))) (L:List (List It)) (S:SS):Prop:=∀q x t,At L S q x t->La G E q x (t:Int)
structure Gvn (G:Gr) (E:List (List (Int×Int))) (L:List (List It)) (S:SS) (q i:Nat):Prop where
 mv:∀x s,(L.getD q [])[i]?=some x->nx G x=some s->∀t,((S.getD q []).getD i 0).testBit t=true->∀j,Ed E q s j->At L S j (x.1,x.2+1) t
 rl:∀x s,(L.getD q [])[i]?=some x->nx G x=some s->s<0->(S.getD q []).getD i 0≠0->∀k (hk:k<G.rs.length),(G.rs[k]).l = -1-s->∀u,(ofN (gn false G.rs G.ns.length) (fst G) ((S.getD q []).getD i 0) (rest G x)).testBit u=true->At L S q ((k:Int),0) u
structure Cls (G:Gr) (E:List (List (Int×Int))) (L:List (List It)) (S:SS):Prop where
 st:At L S 0 (-1,0) G.ts.length
 gv:∀q i,Gvn G E L S q i
theorem zlk {G:Gr} {t j:Int} (h:Fs G t j):0<=t:=by
 induction h with
 | tm _ _ _ _ _ h0 _=>exact h0
 | nt _ _ _ _ _ _ _ _ _ ih=>exact ih
theorem ze2 {G:Gr} {t:Int} {r:List Int} (h:Bg G t r):0<=t:=by
 obtain⟨_,_,_,_,_,h|h⟩:=h
 ·exact h.2
 ·exact zlk h.2
theorem zbw {v t:Nat} (h:v.testBit t=true):v≠0:=fun e=>by rw[e,Nat.zero_testBit]at h;cases h
theorem zkU {G:Gr} {E:List (List (Int×Int))} {L:List (List It)} {S:SS} (hok:Ok G) (h1:Snd G E L S) (h2:Cls G E L S) {q:Nat} {x:It} {t:Int}:La G E q x t ↔ ∃n:Nat,t=n/\At L S q x n:=by
 constructor
 ·intro h;induction h with
  | st=>exact⟨_,rfl,h2.st⟩
  | bg i x t s _ hs h0 k hk hl u hu ih =>
   obtain⟨n,rfl,j,e,hb⟩:=ih;have hp:=ze2 hu;refine⟨u.toNat,by omega,(h2.gv i j).rl x s e hs h0 (zbw hb) k hk hl u.toNat ((zat hok.lin _ _ _).2 (.inl ?_))⟩;rw[Int.toNat_of_nonneg hp];exact hu
  | nu i x t s _ hs h0 k hk hl hn ih =>
   obtain⟨n,rfl,j,e,hb⟩:=ih;exact⟨n,rfl,(h2.gv i j).rl x s e hs h0 (zbw hb) k hk hl n ((zat hok.lin _ _ _).2 (.inr ⟨hn,hb⟩))⟩
  | mv i x t s _ hs j he ih =>
   obtain⟨n,rfl,k,e,hb⟩:=ih;exact⟨n,rfl,(h2.gv i k).mv x s e hs n hb j he⟩
 ·rintro⟨n,rfl,h⟩;exact h1 q x n h
def zdG (l:List It) (row:List Nat) (x:It) (s:Nat):List Nat:=List.zipWith (fun y v=>if y=x then v ||| s else v) l row
def gv (L:List (List It)) (S:SS) (q:Nat) (x:It) (s:Nat):SS:=S.set q (zdG (L.getD q []) (S.getD q []) x s)
def ps1 (G:Gr) (L:List (List It)) (q:Nat) (sym:Int) (s:Nat) (S:SS) (k:Nat):SS:=if(G.rs.getD k ⟨0,[],0⟩).l = -1-sym then gv L S q ((k:Int),0) s else S
noncomputable def ps (G:Gr) (to:Nat->Int->Nat) (L:List (List It)) (S:SS) (p:Nat×Nat):SS :=
 match (L.getD p.1 [])[p.2]? with
 | none=>S
 | some x=>match nx G x with
  | none=>S
  | some sym=>if(S.getD p.1 []).getD p.2 0=0 then S else
   if 0<=sym then gv L S (to p.1 sym) (x.1,x.2+1) ((S.getD p.1 []).getD p.2 0)
   else(List.range G.rs.length).foldl (ps1 G L p.1 sym (ofN (gn false G.rs G.ns.length) (fst G) ((S.getD p.1 []).getD p.2 0) (rest G x))) (gv L S (to p.1 sym) (x.1,x.2+1) ((S.getD p.1 []).getD p.2 0))
def Fit (L:List (List It)) (S:SS):Prop:=S.length=L.length/\∀q,(S.getD q []).length=(L.getD q []).length
def SLe (a b:SS):Prop:=a.length=b.length/\∀q,NLe (a.getD q []) (b.getD q [])
theorem SLe.refl (a:SS):SLe a a:=⟨rfl,fun _=>.refl _⟩
theorem SLe.trans {a b c:SS} (h:SLe a b) (k:SLe b c):SLe a c:=⟨h.1.trans k.1,fun q=>(h.2 q).trans (k.2 q)⟩
theorem SLe.anti {a b:SS} (h:SLe a b) (k:SLe b a):b=a:=by
 refine List.ext_getElem k.1 fun i h1 h2=>?_
 have:=NLe.anti (h.2 i) (k.2 i)
 rw[List.getD_eq_getElem?_getD,List.getD_eq_getElem?_getD,List.getElem?_eq_getElem h1,List.getElem?_eq_getElem h2]at this;exact this
theorem zdF {l:List It} {row:List Nat} (h:row.length=l.length) (x:It) (s:Nat):(zdG l row x s).length=row.length:=by simp[zdG,h]
theorem zbI {l:List It} {row:List Nat} (h:row.length=l.length) (x:It) (s i:Nat):(zdG l row x s).getD i 0=if l[i]?=some x then row.getD i 0 ||| s else row.getD i 0:=by
 unfold zdG;rw[List.getD_eq_getElem?_getD,List.getD_eq_getElem?_getD,List.getElem?_zipWith];rcases Nat.lt_or_ge i l.length with hi|hi
 ·rw[List.getElem?_eq_getElem hi,List.getElem?_eq_getElem (by omega:i<row.length)];simp only[Option.some.injEq,Option.getD_some]
 ·rw[List.getElem?_eq_none hi,List.getElem?_eq_none (by omega:row.length<=i)];simp
theorem zig {l:List It} {row:List Nat} (h:row.length=l.length) (x:It) (s:Nat):NLe row (zdG l row x s):=by
 refine⟨(zdF h x s).symm,fun i=>?_⟩;rw[zbI h];split
 ·exact Nat.left_le_or
 ·exact Nat.le_refl _
theorem zgX (L:List (List It)) (S:SS) (q:Nat) (x:It) (s p:Nat):(gv L S q x s).getD p []=if p=q then zdG (L.getD q []) (S.getD q []) x s else S.getD p []:=by
 unfold gv;by_cases e:p=q
 ·subst e;rw[if_pos rfl];rcases Nat.lt_or_ge p S.length with hp|hp
  ·rw[List.getD_eq_getElem?_getD,List.getElem?_set_self hp,Option.getD_some]
  ·have h1:S.getD p []=[]:=by rw[List.getD_eq_getElem?_getD,List.getElem?_eq_none hp];rfl
   rw[List.set_eq_of_length_le hp,h1];unfold zdG;rw[List.zipWith_nil_right]
 ·rw[if_neg e,List.getD_eq_getElem?_getD,List.getElem?_set_ne (fun k=>e k.symm),<-List.getD_eq_getElem?_getD]
theorem zb5 {L:List (List It)} {S:SS} (h:Fit L S) (q:Nat) (x:It) (s:Nat):Fit L (gv L S q x s):=by
 refine⟨by unfold gv;rw[List.length_set];exact h.1,fun p=>?_⟩;rw[zgX];split
 ·rename_i e
  rw[zdF (h.2 q),e];exact h.2 q
 ·exact h.2 p
theorem zif {L:List (List It)} {S:SS} (h:Fit L S) (q:Nat) (x:It) (s:Nat):SLe S (gv L S q x s):=by
 refine⟨by unfold gv;rw[List.length_set],fun p=>?_⟩;rw[zgX];split
 ·rename_i e
  rw[e];exact zig (h.2 q) x s
 ·exact .refl _
theorem zfC {L:List (List It)} {S:SS} (h:Fit L S) {q:Nat} {x:It} {s p:Nat} {y:It} {t:Nat}:At L (gv L S q x s) p y t↔At L S p y t\/(p=q/\y=x/\s.testBit t=true/\∃i:Nat,(L.getD q [])[i]?=some x):=by
 unfold At;rw[zgX];by_cases e:p=q
 ·subst e;rw[if_pos rfl]
  constructor
  ·rintro⟨i,h1,h2⟩;rw[zbI (h.2 p)]at h2;split at h2
   ·rename_i hx
    rw[Nat.testBit_or,Bool.or_eq_true]at h2;rcases h2 with h2|h2
    ·exact .inl ⟨i,h1,h2⟩
    ·rw[hx]at h1;injection h1 with h1;exact .inr ⟨rfl,h1.symm,h2,i,hx⟩
   ·exact .inl ⟨i,h1,h2⟩
  ·rintro(⟨i,h1,h2⟩|⟨_,rfl,h2,i,h3⟩)
   ·refine⟨i,h1,?_⟩;rw[zbI (h.2 p)];split
    ·rw[Nat.testBit_or,h2,Bool.true_or]
    ·exact h2
   ·refine⟨i,h3,?_⟩;rw[zbI (h.2 p),if_pos h3,Nat.testBit_or,h2,Bool.or_true]
 ·rw[if_neg e];exact⟨.inl,fun k=>k.resolve_right fun k=>e k.1⟩
theorem zgW {G:Gr} {E:List (List (Int×Int))} {L:List (List It)} {S:SS} (h:Fit L S) (hs:Snd G E L S) {q:Nat} {x:It} {s:Nat} (hx:∀t,s.testBit t=true->La G E q x (t:Int)):Snd G E L (gv L S q x s):=fun p y t k=>by
 rcases(zfC h).1 k with k|⟨rfl,rfl,k,_⟩
 ·exact hs p y t k
 ·exact hx t k
theorem zhG {α:Type} {f:SS->α->SS} {I:SS->Prop} (hf:∀s x,I s->I (f s x)/\SLe s (f s x)):∀(xs:List α) (s:SS),I s->I (xs.foldl f s)/\SLe s (xs.foldl f s)
 | [],s,h=>⟨h,.refl s⟩
 | x::xs,s,h=>by
  have h1:=hf s x h;have h2:=zhG hf xs (f s x) h1.1;exact⟨h2.1,h1.2.trans h2.2⟩
theorem zcm {α:Type} {f:SS->α->SS} {I:SS->Prop} (hf:∀s x,I s->I (f s x)/\SLe s (f s x)):∀(xs:List α) (s:SS),I s->xs.foldl f s=s->∀x∈xs,f s x=s
 | [],_,_,_,_,hx=>by cases hx
 | y::ys,s,h,e,x,hx=>by
  rw[List.foldl_cons]at e;have h1:=hf s y h;have h2:f s y=s:=SLe.anti h1.2 (by have:=(zhG hf ys (f s y) h1.1).2;rwa [e]at this);rw[h2]at e;rcases List.mem_cons.1 hx with rfl|hx
  ·exact h2
  ·exact zcm hf ys s h e x hx
theorem zdt {G:Gr} {L:List (List It)} (q:Nat) (sym:Int) (s:Nat) (S:SS) (k:Nat) (h:Fit L S):Fit L (ps1 G L q sym s S k)/\SLe S (ps1 G L q sym s S k):=by
 unfold ps1;split
 ·exact⟨zb5 h _ _ _,zif h _ _ _⟩
 ·exact⟨h,.refl _⟩
theorem zl3 {G:Gr} {to:Nat->Int->Nat} {L:List (List It)} (S:SS) (p:Nat×Nat) (h:Fit L S):Fit L (ps G to L S p)/\SLe S (ps G to L S p):=by
 unfold ps;split
 ·exact⟨h,.refl _⟩
 ·rename_i x _
  split
  ·exact⟨h,.refl _⟩
  ·rename_i sym _
   split
   ·exact⟨h,.refl _⟩
   ·split
    ·exact⟨zb5 h _ _ _,zif h _ _ _⟩
    ·have:=zhG (I:=Fit L) (fun s k hs=>zdt (G:=G) p.1 sym (ofN (gn false G.rs G.ns.length) (fst G) ((S.getD p.1 []).getD p.2 0) (rest G x)) s k hs) (List.range G.rs.length) _ (zb5 h (to p.1 sym) (x.1,x.2+1) ((S.getD p.1 []).getD p.2 0))
     exact⟨this.1,(zif h _ _ _).trans this.2⟩
theorem zks {G:Gr} {E:List (List (Int×Int))} {to:Nat->Int->Nat} {L:List (List It)} (hok:Ok G) (hto:∀(q:Nat) (x:It) (s:Int),x∈L.getD q []->nx G x=some s->Ed E q s (to q s)) (S:SS) (p:Nat×Nat) (h:Fit L S) (hs:Snd G E L S):Snd G E L (ps G to L S p):=by
 unfold ps;split
 ·exact hs
 ·rename_i x hx
  split
  ·exact hs
  ·rename_i sym hn
   split
   ·exact hs
   ·have h1:Snd G E L (gv L S (to p.1 sym) (x.1,x.2+1) ((S.getD p.1 []).getD p.2 0)):=zgW h hs fun t ht=>.mv p.1 x t sym (hs _ _ _ ⟨p.2,hx,ht⟩) hn _ (hto p.1 x sym (List.mem_of_getElem? hx) hn);split
    ·exact h1
    ·rename_i hne h0
     have hbit:∃t,((S.getD p.1 []).getD p.2 0).testBit t=true:=Nat.exists_testBit_of_ne_zero hne;obtain⟨t0,ht0⟩:=hbit
     have hla:∀k,k<G.rs.length->(G.rs.getD k ⟨0,[],0⟩).l = -1-sym->∀u,(ofN (gn false G.rs G.ns.length) (fst G) ((S.getD p.1 []).getD p.2 0) (rest G x)).testBit u=true->La G E p.1 ((k:Int),0) (u:Int):=fun k hk e u hu=>by
      rw[List.getD_eq_getElem?_getD,List.getElem?_eq_getElem hk,Option.getD_some]at e;rcases(zat hok.lin _ _ _).1 hu with hb|⟨hb,hr⟩
      ·exact .bg p.1 x t0 sym (hs _ _ _ ⟨p.2,hx,ht0⟩) hn (by omega) k hk e _ hb
      ·exact .nu p.1 x u sym (hs _ _ _ ⟨p.2,hx,hr⟩) hn (by omega) k hk e hb
     have key:∀(ks:List Nat),(∀k∈ks,k<G.rs.length)->∀S1,Fit L S1->Snd G E L S1->Snd G E L (ks.foldl (ps1 G L p.1 sym (ofN (gn false G.rs G.ns.length) (fst G) ((S.getD p.1 []).getD p.2 0) (rest G x))) S1):=by
      intro ks;induction ks with
      | nil=>exact fun _ S1 _ h=>h
      | cons k ks ih =>
       intro hk S1 hf hS;rw[List.foldl_cons];refine ih (fun j hj=>hk j (List.mem_cons_of_mem _ hj)) _ (zdt _ _ _ S1 k hf).1 ?_;unfold ps1;split
       ·rename_i e
        exact zgW hf hS fun u hu=>hla k (hk k List.mem_cons_self) e u hu
       ·exact hS
     exact key _ (fun k hk=>List.mem_range.1 hk) _ (zb5 h _ _ _) h1
theorem zgY {L:List (List It)} {S:SS} (h:Fit L S) {q:Nat} {x:It} {s:Nat} (e:gv L S q x s=S) {t:Nat} (ht:s.testBit t=true) (hx:x∈L.getD q []):At L S q x t:=by
 obtain⟨i,hi⟩:=List.getElem?_of_mem hx
 have:=(zfC (L:=L) h (q:=q) (x:=x) (s:=s) (p:=q) (y:=x) (t:=t)).2 (.inr ⟨rfl,rfl,ht,i,hi⟩)
 rwa [e]at this
theorem zjn {G:Gr} {E:List (List (Int×Int))} {to:Nat->Int->Nat} {L:List (List It)} (hto:∀(q:Nat) (x:It) (s:Int) (j:Nat),x∈L.getD q []->nx G x=some s->Ed E q s j->j=to q s) (hmv:∀(q:Nat) (x:It) (s:Int),x∈L.getD q []->nx G x=some s->(x.1,x.2+1)∈L.getD (to q s) [])
  (hrl:∀(q:Nat) (x:It) (s:Int) (k:Nat) (hk:k<G.rs.length),x∈L.getD q []->nx G x=some s->s<0->(G.rs[k]).l = -1-s->((k:Int),(0:Int))∈L.getD q []) {S:SS} (h:Fit L S) {q i:Nat} (e:ps G to L S (q,i)=S):Gvn G E L S q i:=by
 have key:∀x s,(L.getD q [])[i]?=some x->nx G x=some s->(S.getD q []).getD i 0≠0->gv L S (to q s) (x.1,x.2+1) ((S.getD q []).getD i 0)=S/\(s<0->∀k,k<G.rs.length->ps1 G L q s (ofN (gn false G.rs G.ns.length) (fst G) ((S.getD q []).getD i 0) (rest G x)) S k=S):=by
  intro x s hx hn hne;unfold ps at e;simp only[hx,hn]at e;rw[if_neg hne]at e;by_cases h0:0<=s
  ·rw[if_pos h0]at e;exact⟨e,fun k=>absurd h0 (by omega)⟩
  ·rw[if_neg h0]at e;have a1:=zif h (to q s) (x.1,x.2+1) ((S.getD q []).getD i 0);have a2:=zhG (I:=Fit L) (fun s' k hs=>zdt (G:=G) q s (ofN (gn false G.rs G.ns.length) (fst G) ((S.getD q []).getD i 0) (rest G x)) s' k hs) (List.range G.rs.length) _ (zb5 h (to q s) (x.1,x.2+1) ((S.getD q []).getD i 0));rw[e]at a2;have a3:=SLe.anti a1 a2.2;refine⟨a3,fun _ k hk=>?_⟩;rw[a3]at e;exact zcm (I:=Fit L) (fun s' k hs=>zdt (G:=G) _ _ _ s' k hs) _ S h e k (List.mem_range.2 hk)
 refine⟨fun x s hx hn t ht j he=>?_,fun x s hx hn h0 hne k hk hl u hu=>?_⟩
 ·have hm:=List.mem_of_getElem? hx;rw[hto q x s j hm hn he];exact zgY h (key x s hx hn (zbw ht)).1 ht (hmv q x s hm hn)
 ·have:=(key x s hx hn hne).2 h0 k hk
  unfold ps1 at this;rw[if_pos (by rw[List.getD_eq_getElem?_getD,List.getElem?_eq_getElem hk,Option.getD_some];exact hl)]at this;exact zgY h this hu (hrl q x s k hk (List.mem_of_getElem? hx) hn h0 hl)
end Lk
namespace Gm
noncomputable def zjC (p:Nat->Prop):Nat->Nat
 | 0=>0
 | n+1=>zjC p n ||| (if tr (p n)=true then 2 ^ n else 0)
theorem zeF (p:Nat->Prop) (n j:Nat):(zjC p n).testBit j=true↔j<n/\p j:=by
 induction n with
 | zero=>rw[zjC];simp
 | succ n ih =>
  rw[zjC,Nat.testBit_or,Bool.or_eq_true,ih];by_cases h:tr (p n)=true
  ·rw[if_pos h,Nat.testBit_two_pow,decide_eq_true_eq];rw[tr_iff]at h
   constructor
   ·rintro(⟨h1,h2⟩|rfl)
    ·exact⟨by omega,h2⟩
    ·exact⟨by omega,h⟩
   ·rintro⟨h1,h2⟩;by_cases e:n=j
    ·exact .inr e
    ·exact .inl ⟨by omega,h2⟩
  ·rw[if_neg h];rw[tr_iff]at h
   constructor
   ·rintro(⟨h1,h2⟩|h1)
    ·exact⟨by omega,h2⟩
    ·simp at h1
   ·rintro⟨h1,h2⟩;by_cases e:j=n
    ·subst e;exact absurd h2 h
    ·exact .inl ⟨by omega,h2⟩
theorem zjB (p:Nat->Prop) (n:Nat):zjC p n<2 ^ n:=by
 refine Nat.lt_pow_two_of_testBit _ fun i hi=>?_;cases h:(zjC p n).testBit i
 ·rfl
 ·have:=(zeF p n i).1 h;omega
def St (G:Gr) (i j:Int):Prop:=∃x∈G.rs,x.l=i/\Al true G.rs x.r/\∃p z q,x.r=p++z::q/\z<0/\j = -1-z/\Nu G p/\Nu G q
inductive Cm (G:Gr):Int->Int->Prop
 | one {i j:Int} (h:St G i j):Cm G i j
 | on {i k j:Int} (h:St G i k) (h2:Cm G k j):Cm G i j
theorem Cm.trans {G:Gr} {i k j:Int} (h:Cm G i k) (h2:Cm G k j):Cm G i j:=by
 induction h with
 | one h=>exact .on h h2
 | on h _ ih=>exact .on h (ih h2)
theorem St.lin {G:Gr} {n:Nat} (hl:Lin n G.rs) (hi:∀x∈G.rs,Sin n x.r) {i j:Int} (h:St G i j):(0<=i/\i<n)/\0<=j/\j<n:=by
 obtain⟨x,hx,rfl,_,p,z,q,e,hz,rfl,_⟩:=h
 have:=hi x hx z (by rw[e];simp) hz
 exact⟨hl x hx,by omega,this⟩
theorem Cm.lin {G:Gr} {n:Nat} (hl:Lin n G.rs) (hi:∀x∈G.rs,Sin n x.r) {i j:Int} (h:Cm G i j):(0<=i/\i<n)/\0<=j/\j<n:=by
 induction h with
 | one h=>exact h.lin hl hi
 | on h _ ih=>exact⟨(h.lin hl hi).1,ih.2⟩
theorem St.use {G:Gr} {i j:Int} (h:St G i j) (hr:Rc G i):Rc G j/\Gn true G.rs j:=by
 obtain⟨x,hx,rfl,ha,p,z,q,e,hz,rfl,_⟩:=h;have hm:z∈x.r:=by rw[e];simp
 exact⟨.on x hx hr ha z hm hz,ha.2 z hm hz⟩
end Gm
end Go.Proofs.YtcmhaemaophplaaGreat
namespace Go.Mw
open Go.RowKit Go.Maps
section
variable {κ:Type} [DecidableEq κ] {α:Type}
def putA:List (κ×α)->κ->α->List (κ×α)
 | [],x,v=>[(x,v)]
 | (k,u)::r,x,v=>if k=x then(k,v)::r else(k,u)::putA r x v
theorem asc_put {x y:κ} {v:α}:∀ {l:List (κ×α)},asc (putA l x v) y=if x=y then some v else asc l y
 | []=>by simp[putA,asc]
 | (k,u)::r=>by
  have ih:=asc_put (x:=x) (y:=y) (v:=v) (l:=r);unfold putA;by_cases h:k=x
  ·rw[if_pos h];subst h;unfold asc;by_cases e:k=y
   ·rw[if_pos e,if_pos e]
   ·rw[if_neg e,if_neg e,if_neg e]
  ·rw[if_neg h];unfold asc;rw[ih];by_cases e:k=y
   ·subst e;rw[if_pos rfl,if_neg (fun q=>h q.symm),if_pos rfl]
   ·rw[if_neg e,if_neg e]
theorem putA_none {x:κ} {v:α}:∀ {l:List (κ×α)},asc l x=none->putA l x v=l++[(x,v)]
 | [],_=>rfl
 | (k,u)::r,h=>by
  unfold asc at h;split at h
  ·cases h
  ·rename_i hk
   rw[putA,if_neg hk,putA_none h];rfl
theorem zcT {x:κ} {v:α}:∀ {l:List (κ×α)} {j:Nat} {u:α},(l.map Prod.fst).Nodup->l[j]?=some (x,u)->putA l x v=l.set j (x,v)
 | [],j,u,_,h=>by simp at h
 | (k,u0)::r,0,u,_,h=>by
  simp only[List.getElem?_cons_zero,Option.some.injEq]at h;injection h with h1 h2;rw[putA,if_pos h1,h1];rfl
 | (k,u0)::r,j+1,u,hn,h=>by
  rw[List.map_cons,List.nodup_cons]at hn;rw[List.getElem?_cons_succ]at h
  have:k≠x:=fun q=>hn.1 (by rw[q];exact List.mem_map.2 ⟨(x,u),List.mem_of_getElem? h,rfl⟩)
  rw[putA,if_neg this,zcT hn.2 h,List.set_cons_succ]
end
section
variable {P:Program} {kt:TypeId} {κ:Type} {E:Enc P kt κ} {w:World} {b:Nat} {l:List (κ×Value)}
def MapSt (E:Enc P kt κ) (w:World) (b:Nat) (l:List (κ×Value)):Prop :=
 ∃es clock,w.heap[b]?=some (.map es clock)/\es.toList.map (fun e=>(e.key,e.val))=l.map (fun p=>(E.enc p.1,p.2))/\(∀p∈l,E.ok p.1)/\(l.map Prod.fst).Nodup/\∀e∈es.toList,e.born<clock
theorem MapSt.is (h:MapSt E w b l):MapIs E w b l:=by
 obtain⟨es,clock,h1,h2,h3,h4,_⟩:=h;exact⟨es,clock,h1,h2,h3,h4⟩
theorem MapSt.made (E:Enc P kt κ) (w:World):MapSt E (w.alloc (.map #[] 0)) w.heap.size [] :=
 ⟨#[],0,(MapKept.heap_alloc w _).1,rfl,by simp,by simp,by simp⟩
theorem MapSt.lt (h:MapSt E w b l):b<w.heap.size:=h.is.lt
theorem MapSt.block {w':World} (h:MapSt E w b l) (hg:w'.heap[b]?=w.heap[b]?):MapSt E w' b l:=by
 obtain⟨es,clock,hb,r⟩:=h;exact⟨es,clock,hg.trans hb,r⟩
variable [DecidableEq κ]
theorem run_put {t e:TypeId} (h:MapIs E w b l) (K:Keyed P kt) (ht:P.underlying t=some (.map kt e)) {x:κ} (hx:E.ok x) (v:Value) :
  ∃w',(Instr.mapUpdate t (.map (some b)) (E.enc x) v).run P w=.ok () w'/\MapIs E w' b (putA l x v)/\w.grownBy w' (some b):=by
 obtain⟨lx,hlx⟩:=E.key x hx;have h0:=h;obtain⟨es,clock,hb,he,hf⟩:=find_in h K hx;obtain⟨es0,clock0,hb0,he0,hk,hn⟩:=h0;rw[hb]at hb0;injection hb0 with hb0;injection hb0 with hb0 hb1;subst hb0 hb1;rcases hf with⟨h1,h2⟩|⟨j,e0,h1,h2,h3,h4,h5⟩
 ·obtain⟨w',r1,r2,r3⟩:=run_store h K ht hx v (.inl h2);rw[if_pos h2]at r2;rw[putA_none h2];exact⟨w',r1,r2,r3⟩
 ·have hj:es[j]?=some e0:=by simpa using h2
  rw[zcT hn h5]
  have hmod:(es.modify j (fun e=>{e with key:=E.enc x,val:=v})).toList.map (fun e=>(e.key,e.val))=(l.set j (x,v)).map (fun p=>(E.enc p.1,p.2)):=by
   rw[Array.toList_modify,ChangeMaps.modify_eq_set _ _ _ _ h2,List.map_set,List.map_set,he]
  refine⟨ChangeMaps.setBlock w b (.map (es.modify j (fun e=>{e with key:=E.enc x,val:=v})) clock),?_,⟨_,_,ChangeMaps.heap_setBlock_same hb _,hmod,?_,?_⟩,⟨rfl,rfl,rfl,by simp[ChangeMaps.setBlock],fun i _ hi=>ChangeMaps.heap_setBlock_other hb _ (fun e=>hi (by rw[e]))⟩⟩
  ·simp[Instr.mapUpdate,run_underlying ht,MapKept.run_getObj_map hb,K.check w false hlx,h1,hj,h3,K.stays w hlx,MapKept.run_setObj_map _ hb,Result.andThen,ChangeMaps.setBlock]
  ·intro p hp;rcases List.mem_or_eq_of_mem_set hp with q|q
   ·exact hk p q
   ·rw[q];exact hx
  ·have e1:(l.set j (x,v)).map Prod.fst=l.map Prod.fst:=by
    rw[List.map_set];refine List.ext_getElem? fun i=>?_;rw[List.getElem?_set];by_cases hij:j=i
    ·subst hij;have hjl:j<(l.map Prod.fst).length:=by rw[List.length_map];exact(List.getElem?_eq_some_iff.1 h5).1
     rw[if_pos rfl,if_pos hjl,List.getElem?_map,h5];rfl
    ·rw[if_neg hij]
   rw[e1];exact hn
def za9 (E:Enc P kt κ) (w:World) (b:Nat) (l:List (κ×Value)) (x:κ) (clock:Nat):Prop :=
 ∃(es:Array MapEntry) (z:Value),w.heap[b]?=some (.map (es.push ⟨E.enc x,z,clock⟩) (clock+1))/\es.toList.map (fun e=>(e.key,e.val))=l.map (fun p=>(E.enc p.1,p.2))/\(∀p∈l,E.ok p.1)/\(l.map Prod.fst).Nodup/\(∀e∈es.toList,e.born<clock)/\E.ok x/\asc l x=none
theorem za9.block {w':World} {x:κ} {c:Nat} (h:za9 E w b l x c) (hg:w'.heap[b]?=w.heap[b]?):za9 E w' b l x c:=by
 obtain⟨es,z,hb,r⟩:=h;exact⟨es,z,hg.trans hb,r⟩
theorem za9.lt {x:κ} {c:Nat} (h:za9 E w b l x c):b<w.heap.size:=by
 obtain⟨es,z,hb,_⟩:=h;exact(Array.getElem?_eq_some_iff.1 hb).1
theorem run_entry {t e:TypeId} (h:MapSt E w b l) (K:Keyed P kt) (ht:P.underlying t=some (.map kt e)) {z:Value} (hz:(zeroValue e).run P w=.ok z w) {x:κ} (hx:E.ok x) (hn:asc l x=none) :
  ∃(c:Nat) (w':World),(Instr.mapEntry t (.map (some b)) (E.enc x)).run P w=.ok (.tuple #[z,goInt c]) w'/\za9 E w' b l x c/\w.grownBy w' (some b):=by
 obtain⟨lx,hlx⟩:=E.key x hx;have h0:=h;obtain⟨es,clock,hb,he,hf⟩:=find_in h.is K hx;obtain⟨es0,clock0,hb0,he0,hk,hnd,hst⟩:=h0;rw[hb]at hb0;injection hb0 with hb0;injection hb0 with hb0 hb1;subst hb0 hb1;rcases hf with⟨h1,h2⟩|⟨j,e0,h1,h2,h3,h4,h5⟩
 ·refine⟨clock,ChangeMaps.setBlock w b (.map (es.push ⟨E.enc x,z,clock⟩) (clock+1)),?_,⟨es,z,ChangeMaps.heap_setBlock_same hb _,he,hk,hnd,hst,hx,hn⟩,⟨rfl,rfl,rfl,by simp[ChangeMaps.setBlock],fun i _ hi=>ChangeMaps.heap_setBlock_other hb _ (fun e=>hi (by rw[e]))⟩⟩;simp[Instr.mapEntry,run_underlying ht,MapKept.run_getObj_map hb,K.check w false hlx,h1,hz,MapKept.run_setObj_map _ hb,Result.andThen,ChangeMaps.setBlock]
 ·rw[hn]at h4;cases h4
theorem zdJ {es:List MapEntry} {c:Nat} (h:∀e∈es,e.born<c) (x:MapEntry) (hx:x.born=c):(es++[x]).findIdx? (fun e=>(e.born:Int)==(c:Int))=some es.length:=by
 induction es with
 | nil=>simp[hx]
 | cons y r ih =>
  have hy:=h y List.mem_cons_self;have ih:=ih fun e he=>h e (List.mem_cons_of_mem _ he);rw[List.cons_append,List.findIdx?_cons,ih]
  have:((y.born:Int)==(c:Int))=false:=by
   rw[beq_eq_false_iff_ne];omega
  rw[this];simp
theorem run_estore {t:TypeId} {x:κ} {c:Nat} (h:za9 E w b l x c) (v:Value) :
  ∃w',(Instr.entryStore t (.map (some b)) (goInt c) v).run P w=.ok () w'/\MapSt E w' b (l++[(x,v)])/\w.grownBy w' (some b):=by
 obtain⟨es,z,hb,he,hk,hn,hst,hx,hna⟩:=h
 have hfi:(es.push ⟨E.enc x,z,c⟩).findIdx? (fun e=>(e.born:Int)==(c:Int))=some es.size:=by
  rw[Go.WideElems.findIdx_arr,Array.toList_push,zdJ hst _ rfl];simp
 have hmod:(es.push ⟨E.enc x,z,c⟩).modify es.size (fun e=>{e with val:=v})=es.push ⟨E.enc x,v,c⟩:=by
  apply Array.ext';rw[Array.toList_modify,Array.toList_push,Array.toList_push]
  have:∀(l:List MapEntry) (a:MapEntry),(l++[a]).modify l.length (fun e=>{e with val:=v})=l++[{a with val:=v}]:=fun l a=>by
   induction l with
   | nil=>rfl
   | cons y r ih=>rw[List.cons_append,List.length_cons,List.modify_succ_cons,ih];rfl
  exact this es.toList _
 refine⟨ChangeMaps.setBlock w b (.map (es.push ⟨E.enc x,v,c⟩) (c+1)),?_,⟨_,_,ChangeMaps.heap_setBlock_same hb _,?_,?_,?_,?_⟩,⟨rfl,rfl,rfl,by simp[ChangeMaps.setBlock],fun i _ hi=>ChangeMaps.heap_setBlock_other hb _ (fun e=>hi (by rw[e]))⟩⟩
 ·simp[Instr.entryStore,MapKept.run_getObj_map hb,asInt,asIntOf,goInt,hfi,hmod,MapKept.run_setObj_map _ hb,Result.andThen,ChangeMaps.setBlock]
 ·rw[Array.toList_push,List.map_append,List.map_append,he];rfl
 ·intro p hp;rcases List.mem_append.1 hp with q|q
  ·exact hk p q
  ·rw[List.mem_singleton]at q;subst q;exact hx
 ·rw[List.map_append,List.nodup_append];refine⟨hn,by simp,fun a ha d hd=>?_⟩;obtain⟨p,hp,rfl⟩:=List.mem_map.1 ha;simp only[List.map_cons,List.map_nil,List.mem_singleton]at hd;subst hd;exact za5.1 hna p hp
 ·intro e he;rw[Array.toList_push]at he;rcases List.mem_append.1 he with q|q
  ·have:=hst e q;omega
  ·rw[List.mem_singleton]at q;subst q;simp
end
end Go.Mw
namespace Go.Proofs.YtcmhaemaophplaaGreat
end Go.Proofs.YtcmhaemaophplaaGreat
namespace Go.Proofs.YtcmhaemaophplaaGreat
set_option maxRecDepth 100000
set_option maxHeartbeats 40000000
open Go.RowKit
namespace Au
theorem zg2 {α:Type} {f:Int->List α} {b:Nat}:∀ {l:List Int},(∀r∈l,(f r).length<=b)->(l.flatMap f).length<=l.length*b
 | [],_=>by simp
 | x::l,h=>by
  rw[List.flatMap_cons,List.length_append,List.length_cons,Nat.add_mul,Nat.one_mul];have h1:=h x (List.mem_cons_self ..);have h2:=zg2 (l:=l) fun r hr=>h r (List.mem_cons_of_mem _ hr);omega
theorem sy_le {G:Gm.Gr} (h:Gm.Ok G) {r:Int} (hr:r∈rls G):(sy G r).length<=6:=by
 unfold sy;split
 ·simp
 ·rename_i hn
  have h1:=(rls_mem.1 hr)
  have hlt:r.toNat<G.rs.length:=by omega
  rw[List.getD_eq_getElem?_getD,List.getElem?_eq_getElem hlt,Option.getD_some];exact(Gm.rule_in (h.rr _ (List.getElem_mem hlt))).1
theorem allI_le {G:Gm.Gr} (h:Gm.Ok G) (hr:G.rs.length<=40):(zhr G).length<=287:=by
 have h1:(zhr G).length<=(rls G).length*7:=zg2 fun r hr=>by
  rw[List.length_map,List.length_range]
  have:=sy_le h hr
  omega
 have h2:(rls G).length=G.rs.length+1:=by simp[rls]
 omega
theorem kernel_le {G:Gm.Gr} (h:Gm.Ok G) (hr:G.rs.length<=40) {K:List (List It)} {E:List (List (Int×Int))} (hi:Inv G K E) {k:List It} (hk:k∈K):k.length<=287 :=
 Nat.le_trans (ziC (hi.it k hk).1 (hi.it k hk).2) (allI_le h hr)
theorem edges_le {G:Gm.Gr} (ht:G.ts.length<=24) (hn:G.ns.length<=40) {K:List (List It)} {E:List (List (Int×Int))} (hi:Inv G K E) {i:Nat} (h:i<E.length):E[i].length<=64:=by
 have h1:=(hi.ed i h).1;have h2:(E[i].map (·.1)).length<=(syms G).length:=by rw[h1];exact List.length_filter_le _ _
 rw[List.length_map,syms_len]at h2;omega
theorem zlu {G:Gm.Gr} (l:List It):(clo G l).length<=(zhr G).length:=List.length_filter_le _ _
theorem clo_le2 {G:Gm.Gr} (h:Gm.Ok G) (hr:G.rs.length<=40) (l:List It):(clo G l).length<=287:=Nat.le_trans (zlu l) (allI_le h hr)
structure CInv (G:Gm.Gr) (l out:List It):Prop where
 s:Srt out
 h:∀x∈l,x∈out
 c:∀x∈out,Cl G l x
theorem CInv.is {G:Gm.Gr} {l out:List It} (hl:∀x∈l,isI G x=true) (k:CInv G l out):∀x∈out,isI G x=true:=fun x hx=>cl_is hl (k.c x hx)
theorem CInv.le {G:Gm.Gr} {l out:List It} (hl:∀x∈l,isI G x=true) (k:CInv G l out):out.length<=(zhr G).length:=ziC k.s (k.is hl)
theorem CInv.put {G:Gm.Gr} {l out:List It} (k:CInv G l out) {x:It} (hx:x∈out) {s:Int} (hs:nx G x=some s) (h0:s<0) {j:Nat} (hj:j<G.rs.length) (he:(G.rs[j]).l = -1-s):CInv G l (put out ((j:Int),0)) :=
 ⟨zd5 k.s,fun y hy=>zbV.2 (.inr (k.h y hy)),fun y hy=>(zbV.1 hy).elim (fun e=>by rw[e];exact .on x (k.c x hx) s hs h0 j hj he) (k.c y)⟩
theorem CInv.start {G:Gm.Gr} (l:List It):CInv G l (ziE [] l) :=
 ⟨zcS List.Pairwise.nil,fun x hx=>zaZ.2 (.inr hx),fun x hx=>(zaZ.1 hx).elim (fun h=>by cases h) fun h=>.of x h⟩
theorem CInv.done {G:Gm.Gr} {l out:List It} (hl:∀x∈l,isI G x=true) (k:CInv G l out) (h:∀x∈out,∀s,nx G x=some s->s<0->∀j:Nat,∀hj:j<G.rs.length,(G.rs[j]).l = -1-s->((j:Int),0)∈out):out=clo G l:=ziS hl k.s k.h k.c h
def zkT (e:List (Int×Int)) (s:Int):Int:=((e.find? fun x=>x.1==s).map (·.2)).getD (-1)
def wlk (E:List (List (Int×Int))):Int->List Int->Option Int
 | q,[]=>if 0<=q/\q<E.length then some q else none
 | q,s::r=>if 0<=q/\q<E.length then wlk E (zkT (E.getD q.toNat []) s) r else none
end Au
namespace Au
theorem mv_le (G:Gm.Gr) (l:List It) (s:Int):(mv G l s).length<=l.length:=by
 unfold mv;rw[List.length_map];exact List.length_filter_le _ _
end Au
namespace Au
def addE (G:Gm.Gr) (x:It):List It:=match nx G x with
 | some s=>if s<0 then((List.range G.rs.length).filter fun k=>decide ((G.rs.getD k ⟨0,[],0⟩).l = -1-s)).map fun k:Nat=>((k:Int),(0:Int)) else []
 | none=>[]
def addA (G:Gm.Gr) (out:List It):List It:=ziE out (out.flatMap (addE G))
def rnds (G:Gm.Gr):Nat->List It->List It
 | 0,out=>out
 | n+1,out=>rnds G n (addA G out)
def cloC (G:Gm.Gr) (l:List It):List It:=rnds G 41 (ziE [] l)
theorem zbL {G:Gm.Gr} {x z:It}:z∈addE G x ↔ ∃s,nx G x=some s/\s<0/\∃k:Nat,∃hk:k<G.rs.length,(G.rs[k]).l = -1-s/\z=((k:Int),0):=by
 unfold addE;cases hn:nx G x with
 | none=>simp
 | some s =>
  by_cases h0:s<0
  ·simp only[if_pos h0]
   constructor
   ·intro h;obtain⟨k,hk,rfl⟩:=List.mem_map.1 h;obtain⟨h1,h2⟩:=List.mem_filter.1 hk;have h1:=List.mem_range.1 h1;rw[decide_eq_true_eq,List.getD_eq_getElem?_getD,List.getElem?_eq_getElem h1,Option.getD_some]at h2;exact⟨s,rfl,h0,k,h1,h2,rfl⟩
   ·rintro⟨s',e,_,k,hk,hl,rfl⟩;injection e with e;subst e;refine List.mem_map.2 ⟨k,List.mem_filter.2 ⟨List.mem_range.2 hk,?_⟩,rfl⟩;rw[decide_eq_true_eq,List.getD_eq_getElem?_getD,List.getElem?_eq_getElem hk,Option.getD_some];exact hl
  ·simp only[if_neg h0]
   constructor
   ·intro h;cases h
   ·rintro⟨s',e,h1,_⟩;injection e with e;omega
theorem CInv.addA {G:Gm.Gr} {l out:List It} (k:CInv G l out):CInv G l (addA G out):=by
 refine⟨zcS k.s,fun x hx=>zaZ.2 (.inl (k.h x hx)),fun x hx=>?_⟩;rcases zaZ.1 hx with h|h
 ·exact k.c x h
 ·obtain⟨y,hy,hz⟩:=List.mem_flatMap.1 h;obtain⟨s,hs,h0,j,hj,hl,rfl⟩:=zbL.1 hz;exact .on y (k.c y hy) s hs h0 j hj hl
theorem CInv.rnds {G:Gm.Gr} {l:List It}:∀(n:Nat) {out:List It},CInv G l out->CInv G l (rnds G n out)
 | 0,_,k=>k
 | n+1,_,k=>CInv.rnds n k.addA
theorem clo_c {G:Gm.Gr} {l:List It} (hl:∀x∈l,isI G x=true) (h:addA G (cloC G l)=cloC G l):clo G l=cloC G l:=by
 have k:CInv G l (cloC G l):=CInv.rnds 41 (CInv.start l);refine(k.done hl fun x hx s hs h0 j hj he=>?_).symm;rw[<-h];exact zaZ.2 (.inr (List.mem_flatMap.2 ⟨x,hx,zbL.2 ⟨s,hs,h0,j,hj,he,rfl⟩⟩))
def zlK (G:Gm.Gr):Nat->List (List It)->List (List (Int×Int))->Option (List (List It)×List (List (Int×Int)))
 | 0,_,_=>none
 | f+1,ks,es=>if es.length<ks.length then
   let c:=cloC G (ks.getD es.length [])
   let o:=edges G c (ks,[]) (syms G)
   if addA G c=c then(if 300<o.1.length then none else zlK G f o.1 (es++[o.2])) else none
  else some (ks,es)
theorem zkh {G:Gm.Gr}:∀(f:Nat) (ks:List (List It)) (es:List (List (Int×Int))),Inv G ks es->∀r,zlK G f ks es=some r->run G f ks es=some r
 | 0,_,_,_,_,h=>by cases h
 | f+1,ks,es,hi,r,h=>by
  rw[zlK]at h;rw[run];split at h
  ·rename_i hlt
   rw[if_pos hlt];simp only at h;split at h
   ·rename_i hc
    have hm:ks.getD es.length []∈ks:=by
     rw[List.getD_eq_getElem?_getD,List.getElem?_eq_getElem hlt,Option.getD_some];exact List.getElem_mem hlt
    have e:=clo_c (hi.it _ hm).2 hc;have e2:one G ks es.length=edges G (cloC G (ks.getD es.length [])) (ks,[]) (syms G):=by unfold one;rw[e]
    rw[<-e2]at h;split at h
    ·cases h
    ·rename_i h3
     rw[if_neg h3];exact zkh f _ _ (hi.step hlt) r h
   ·cases h
  ·rename_i hlt
   rw[if_neg hlt];exact h
theorem bld_c {G:Gm.Gr} {r:List (List It)×List (List (Int×Int))} (h:zlK G 302 [[(-1,0)]] []=some r):bld G=some r:=zkh 302 _ _ (Inv.start G) r h
def txt (k:List It):List Int:=k.flatMap fun x=>[x.1+1,x.2]
theorem zfV:∀ {a b:List It},txt a=txt b->a=b
 | [],[],_=>rfl
 | [],y::b,h=>by simp[txt]at h
 | x::a,[],h=>by simp[txt]at h
 | x::a,y::b,h=>by
  have h:(x.1+1)::x.2::txt a=(y.1+1)::y.2::txt b:=h;injection h with h1 h;injection h with h2 h;rw[zfV h,show x=y from Prod.ext (by omega) h2]
theorem txt_len (k:List It):(txt k).length=k.length*2:=by
 induction k with
 | nil=>rfl
 | cons x k ih =>
  have e:txt (x::k)=(x.1+1)::x.2::txt k:=rfl;rw[e,List.length_cons,List.length_cons,List.length_cons,ih];omega
theorem txt_snoc (k:List It) (x:It):txt (k++[x])=txt k++[x.1+1,x.2]:=by simp[txt]
theorem txt_in {G:Gm.Gr} (hok:Gm.Ok G) (hr:G.rs.length<=40) {k:List It} (h:∀x∈k,isI G x=true):∀z∈txt k,0<=z/\z<=255:=fun z hz=>by
 obtain⟨x,hx,hz⟩:=List.mem_flatMap.1 hz;have hi:=isI_iff.1 (h x hx);have h6:=sy_le hok (rls_mem.2 hi.1);rcases List.mem_cons.1 hz with rfl|hz
 ·omega
 ·rw[List.mem_singleton.1 hz];omega
def NumOk (l:List (List Int×Value)) (ks:List (List It)):Prop:=∀k:List It,Mw.asc l (txt k)=if fnd ks k<0 then none else some (.int .i64 (fnd ks k))
theorem NumOk.nil:NumOk [] []:=fun k=>by simp[Mw.asc,fnd]
theorem zeT {k k':List It}:∀ {ks:List (List It)},fnd (ks++[k]) k'=if fnd ks k'<0 then(if k=k' then(ks.length:Int) else -1) else fnd ks k'
 | []=>by simp[fnd]
 | y::ks=>by
  have ih:=zeT (k:=k) (k':=k') (ks:=ks);rw[List.cons_append,fnd,fnd,ih];by_cases e:y=k'
  ·simp[e]
  ·simp only[if_neg e];by_cases h1:fnd ks k'<0
   ·simp only[if_pos h1];by_cases h2:k=k'
    ·simp only[if_pos h2,List.length_cons];rw[if_neg (by omega)];simp
    ·simp only[if_neg h2];simp
   ·simp only[if_neg h1];rw[if_neg (by omega)]
theorem NumOk.snoc {l:List (List Int×Value)} {ks:List (List It)} {k:List It} (h:NumOk l ks) (hn:fnd ks k<0):NumOk (l++[(txt k,.int .i64 ks.length)]) (ks++[k]):=fun k'=>by
 have h0:Mw.asc l (txt k)=none:=by rw[h k,if_pos hn]
 rw[Mw.asc_snoc h0,zeT];by_cases e:k=k'
 ·subst e;rw[if_pos rfl,if_pos hn,if_pos rfl,if_neg (by omega)]
 ·rw[if_neg (fun q=>e (zfV q)),h k'];by_cases h1:fnd ks k'<0
  ·simp[h1,e]
  ·simp[h1]
theorem mv_app (G:Gm.Gr) (a b:List It) (s:Int):mv G (a++b) s=mv G a s++mv G b s:=by
 unfold mv;rw[List.filter_append,List.map_append]
theorem mv_one_no {G:Gm.Gr} {x:It} {s:Int} (h:nx G x≠some s):mv G [x] s=[]:=by
 unfold mv;rw[List.filter_cons,if_neg (by simpa using h)];rfl
theorem mv_one {G:Gm.Gr} {x:It} {s:Int} (h:nx G x=some s):mv G [x] s=[(x.1,x.2+1)]:=by
 unfold mv;rw[List.filter_cons,if_pos (by rw[h];simp)];rfl
structure PC (G:Gm.Gr) (l:List It) (i:Nat) (xs:List It):Prop where
 nd:xs.Nodup
 h:∀x∈l,x∈xs
 c:∀x∈xs,Cl G l x
 d:∀j,j<i->∀x,xs[j]?=some x->∀z∈addE G x,z∈xs
theorem zaV:∀ {a b:List It},a.Nodup->(∀x∈a,x∈b)->a.length<=b.length
 | [],_,_,_=>by simp
 | x::a,b,hn,h=>by
  obtain⟨h1,h2⟩:=List.nodup_cons.1 hn;have hx:=h x List.mem_cons_self;have hp:=List.length_erase_of_mem hx;have hpos:=List.length_pos_of_mem hx
  have ih:=zaV (a:=a) (b:=b.erase x) h2 fun y hy=>by
   have:y≠x:=fun e=>h1 (e▸hy)
   exact(List.mem_erase_of_ne this).2 (h y (List.mem_cons_of_mem _ hy))
  rw[List.length_cons];omega
theorem PC.le {G:Gm.Gr} {l xs:List It} {i:Nat} (hl:∀x∈l,isI G x=true) (k:PC G l i xs):xs.length<=(zhr G).length :=
 zaV k.nd fun x hx=>zbK.2 (cl_is hl (k.c x hx))
def addX (xs:List It) (z:It):List It:=if z∈xs then xs else xs++[z]
theorem ziv {xs:List It} {z y:It}:y∈addX xs z↔y=z\/y∈xs:=by
 unfold addX;split
 ·rename_i h
  exact⟨.inr,fun q=>q.elim (fun e=>e▸h) id⟩
 ·rw[List.mem_append,List.mem_singleton];exact Or.comm
theorem zjW {xs:List It} {z:It} (h:xs.Nodup):(addX xs z).Nodup:=by
 unfold addX;split
 ·exact h
 ·rename_i hz
  refine List.nodup_append.2 ⟨h,by simp,fun a ha b hb=>?_⟩;rw[List.mem_singleton.1 hb];exact fun e=>hz (e▸ha)
theorem zjX {xs:List It} {z:It} {j:Nat} (h:j<xs.length):(addX xs z)[j]?=xs[j]?:=by
 unfold addX;split
 ·rfl
 ·rw[List.getElem?_append_left h]
theorem ze8 {xs:List It} {z:It}:xs.length<=(addX xs z).length:=by
 unfold addX;split
 ·exact Nat.le_refl _
 ·simp
def addsX (xs zs:List It):List It:=zs.foldl addX xs
theorem addsX_snoc (xs zs:List It) (z:It):addsX xs (zs++[z])=addX (addsX xs zs) z:=by simp[addsX]
theorem zaC {y:It}:∀ {zs xs:List It},y∈addsX xs zs↔y∈zs\/y∈xs
 | [],xs=>by simp[addsX]
 | z::zs,xs=>by
  have:=zaC (y:=y) (zs:=zs) (xs:=addX xs z)
  rw[show addsX xs (z::zs)=addsX (addX xs z) zs from rfl,this,ziv,List.mem_cons]
  constructor
  ·rintro(h|h|h)
   ·exact .inl (.inr h)
   ·exact .inl (.inl h)
   ·exact .inr h
  ·rintro((h|h)|h)
   ·exact .inr (.inl h)
   ·exact .inl h
   ·exact .inr (.inr h)
theorem zc8:∀ {zs xs:List It},xs.Nodup->(addsX xs zs).Nodup
 | [],_,h=>h
 | _::zs,_,h=>zc8 (zs:=zs) (zjW h)
theorem addsX_len:∀ {zs xs:List It},xs.length<=(addsX xs zs).length
 | [],_=>Nat.le_refl _
 | z::zs,xs=>Nat.le_trans ze8 (addsX_len (zs:=zs) (xs:=addX xs z))
theorem ze7 {j:Nat}:∀ {zs xs:List It},j<xs.length->(addsX xs zs)[j]?=xs[j]?
 | [],_,_=>rfl
 | z::zs,xs,h=>(ze7 (zs:=zs) (xs:=addX xs z) (Nat.lt_of_lt_of_le h ze8)).trans (zjX h)
theorem PC.start (G:Gm.Gr) (l:List It):PC G l 0 (addsX [] l) :=
 ⟨zc8 List.nodup_nil,fun x hx=>zaC.2 (.inl hx),fun x hx=>(zaC.1 hx).elim (fun h=>.of x h) (fun h=>by cases h),fun j hj=>absurd hj (Nat.not_lt_zero _)⟩
theorem PC.next {G:Gm.Gr} {l xs:List It} {i:Nat} (k:PC G l i xs) {x:It} (hx:xs[i]?=some x):PC G l (i+1) (addsX xs (addE G x)):=by
 refine⟨zc8 k.nd,fun y hy=>zaC.2 (.inr (k.h y hy)),fun y hy=>?_,fun j hj y hy z hz=>?_⟩
 ·rcases zaC.1 hy with h|h
  ·obtain⟨s,hs,h0,j,hj,hl,rfl⟩:=zbL.1 h;exact .on x (k.c x (List.mem_of_getElem? hx)) s hs h0 j hj hl
  ·exact k.c y h
 ·have hlt:i<xs.length:=(List.getElem?_eq_some_iff.1 hx).1;rw[ze7 (by omega)]at hy;rcases Nat.lt_or_ge j i with h|h
  ·exact zaC.2 (.inr (k.d j h y hy z hz))
  ·obtain rfl:j=i:=by omega
   rw[hx]at hy;injection hy with hy;subst hy;exact zaC.2 (.inl hz)
theorem PC.done {G:Gm.Gr} {l xs out:List It} (hl:∀x∈l,isI G x=true) (k:PC G l xs.length xs) (hs:Srt out) (hm:∀x,x∈out↔x∈xs):out=clo G l:=by
 refine ziS hl hs (fun x hx=>(hm x).2 (k.h x hx)) (fun x hx=>k.c x ((hm x).1 hx)) fun x hx s hs h0 j hj he=>(hm _).2 ?_;obtain⟨q,hq,e⟩:=List.getElem_of_mem ((hm x).1 hx);exact k.d q hq x (by rw[List.getElem?_eq_getElem hq,e]) _ (zbL.2 ⟨s,hs,h0,j,hj,he,rfl⟩)
theorem srt_of {xs out:List It} (hn:xs.Nodup) (hp:out.Perm xs) (hs:out.Pairwise fun a b=>lt b a=false):Srt out:=by
 have hn2:out.Nodup:=hp.nodup_iff.2 hn;refine(List.pairwise_iff_getElem.2 fun i j hi hj hij=>?_);have h1:=List.pairwise_iff_getElem.1 hs i j hi hj hij;have h2:=List.pairwise_iff_getElem.1 (List.nodup_iff_pairwise_ne.1 hn2) i j hi hj hij;exact lt_or h1 (Ne.symm h2)
end Au
end Go.Proofs.YtcmhaemaophplaaGreat
