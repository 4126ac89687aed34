/- Part of the proofs over this program: OnceL. -/
import Derived.Test.YtabmfpgpkbndeaaGreatKAQ
namespace Go.Proofs.YtabmfpgpkbndeaaGreat
set_option maxRecDepth 100000
set_option maxHeartbeats 40000000
open Go.RowKit
namespace Au
structure OnceS (ss:List StT):Prop where
 ne:0<ss.length
 le:ss.length≤300
 ms:∀x∈ss,x.1.length≤287∧x.2.length≤64
 nd:∀i j (hi:i<ss.length) (hj:j<ss.length),i≠j→(ss[i]).1≠(ss[j]).1
 te:∀i (hi:i<ss.length),∀e∈(ss[i]).2,0≤e.2∧e.2<(ss.length:Int)
 up:∀j,0<j→j<ss.length→∃i,∃h:i<ss.length,i<j∧∃e∈(ss[i]).2,e.2=(j:Int)
theorem bldS_once {G:Gm.Gr} {p:List (List It)×List (List (Int×Int))} (hb:Gm.isB G=true) (hk:bld G=some p):OnceS (bldS G):=by
 have hle:=bldS_le G
 obtain⟨K,E⟩:=p
 have hs:=(bld_ok hb hk).2
 obtain⟨hi,hl,h3⟩:=bld_inv hk
 have hz:(bldS G).length=K.length:=by rw[hs,List.length_zip,hl,Nat.min_self]
 have h1:∀i (h:i<(bldS G).length),∃(a:i<K.length) (b:i<E.length),(bldS G)[i]=(K[i],E[i]):=fun i h=>by
  refine⟨by omega,by omega,?_⟩
  rw[List.getElem_of_eq hs,List.getElem_zip]
 refine⟨?_,hle.1,hle.2,fun i j hi' hj' hij=>?_,fun i hi' e he=>?_,fun j h0 hj=>?_⟩
 ·have:=(List.getElem?_eq_some_iff.1 hi.h0).1
  omega
 ·obtain⟨a1,_,e1⟩:=h1 i hi'
  obtain⟨a2,_,e2⟩:=h1 j hj'
  rw[e1,e2]
  intro q
  have q:K[i]=K[j]:=q
  have:=(List.getElem_inj hi.nd).1 q
  exact hij this
 ·obtain⟨a1,b1,e1⟩:=h1 i hi'
  rw[e1]at he
  obtain⟨j,ej,hj⟩:=(hi.ed i b1).2 e he
  have:=(List.getElem?_eq_some_iff.1 hj).1
  omega
 ·obtain⟨i,hi',hij,e,he,ee⟩:=hi.up j h0 (by omega)
  have hlt:i<(bldS G).length:=by omega
  refine⟨i,hlt,hij,e,?_,ee⟩
  obtain⟨_,_,e1⟩:=h1 i hlt
  rw[e1];exact he
structure SeenI (ss:List StT) (i:Nat) (S:List Bool):Prop where
 l:S.length=ss.length
 z:S.getD 0 false=true
 s:∀j (hj:j<ss.length),j<i→∀e∈(ss[j]).2,S.getD e.2.toNat false=true
theorem zaW {S:List Bool} {j t:Nat} (h:S.getD j false=true):(S.set t true).getD j false=true:=by
 rw[List.getD_eq_getElem?_getD]at h ⊢
 rw[List.getElem?_set]
 by_cases e:t=j
 ·subst e
  rw[if_pos rfl]
  split
  ·rfl
  ·rename_i hn
   rw[List.getElem?_eq_none (by omega)]at h
   exact h
 ·rw[if_neg e];exact h
theorem zbp {S:List Bool} {t:Nat} (h:t<S.length):(S.set t true).getD t false=true:=by
 rw[List.getD_eq_getElem?_getD,List.getElem?_set_self h];rfl
theorem SeenI.start {ss:List StT} (h:0<ss.length):SeenI ss 0 ((List.replicate ss.length false).set 0 true) :=
 ⟨by simp,zbp (by simpa using h),fun j _ h0=>absurd h0 (Nat.not_lt_zero _)⟩
theorem SeenI.at {ss:List StT} {i:Nat} {S:List Bool} (h:SeenI ss i S) (ho:OnceS ss) (hi:i<ss.length):S.getD i false=true:=by
 rcases Nat.eq_zero_or_pos i with rfl|h0
 ·exact h.z
 ·obtain⟨j,hj,hji,e,he,ee⟩:=ho.up i h0 hi
  have:=h.s j hj hji e he
  rwa [ee,Int.toNat_natCast]at this
theorem SeenI.set {ss:List StT} {i:Nat} {S:List Bool} (h:SeenI ss i S) (t:Nat):SeenI ss i (S.set t true) :=
 ⟨by rw[List.length_set];exact h.l,zaW h.z,fun j hj hji e he=>zaW (h.s j hj hji e he)⟩
def SeenK (ss:List StT) (i:Nat) (es:List (Int×Int)) (k:Nat) (S:List Bool):Prop:=SeenI ss i S∧∀e∈es.take k,S.getD e.2.toNat false=true
theorem SeenK.start {ss:List StT} {i:Nat} {es:List (Int×Int)} {S:List Bool} (h:SeenI ss i S):SeenK ss i es 0 S:=⟨h,by simp⟩
theorem SeenK.step {ss:List StT} {i k t:Nat} {es:List (Int×Int)} {S:List Bool} (h:SeenK ss i es k S) (hk:k<es.length) (ht:(es[k]).2=(t:Int)) (htl:t<ss.length):SeenK ss i es (k+1) (S.set t true):=by
 refine⟨h.1.set t,fun e he=>?_⟩
 rw[List.take_succ_eq_append_getElem hk]at he
 rcases List.mem_append.1 he with h1|h1
 ·exact zaW (h.2 e h1)
 ·rw[List.mem_singleton.1 h1,ht,Int.toNat_natCast]
  exact zbp (by rw[h.1.l];exact htl)
theorem SeenK.done {ss:List StT} {i:Nat} {S:List Bool} (hi:i<ss.length) (h:SeenK ss i (ss[i]).2 (ss[i]).2.length S):SeenI ss (i+1) S:=by
 refine⟨h.1.l,h.1.z,fun j hj hji e he=>?_⟩
 by_cases e1:j=i
 ·subst e1
  exact h.2 e (by rw[List.take_length];exact he)
 ·exact h.1.s j hj (by omega) e he
end Au
end Go.Proofs.YtabmfpgpkbndeaaGreat
