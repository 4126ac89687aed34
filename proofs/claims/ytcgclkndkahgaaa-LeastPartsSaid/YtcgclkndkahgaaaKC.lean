/- Part of the proofs over this program: LeastL, LeastT, LeastP, YaccP, Ref8R, YaccSource, YaccOf, ScanL, Ref7, YaccList, BldW, BldP, BldY. -/
import Derived.Test.YtcgclkndkahgaaaKB
namespace Go.Proofs.Ytcgclkndkahgaaa
set_option maxRecDepth 100000
set_option maxHeartbeats 40000000
namespace Gm
def topH (H:List Nat):List Int→Nat
 | []=>0
 | z::r=>if 0≤z then topH H r else max (H.getD (-1-z).toNat 0) (topH H r)
theorem topH_le {H:List Nat} {r:List Int} {k:Nat}:topH H r≤k ↔ ∀z∈r,z<0→H.getD (-1-z).toNat 0≤k:=by
 induction r with
 | nil=>simp[topH]
 | cons z r ih =>
  rw[topH]
  by_cases h0:0≤z
  ·rw[if_pos h0,ih]
   constructor
   ·intro h y hy hn
    rcases List.mem_cons.1 hy with rfl|hy
    ·omega
    ·exact h y hy hn
   ·intro h y hy
    exact h y (List.mem_cons_of_mem _ hy)
  ·rw[if_neg h0,Nat.max_le,ih]
   constructor
   ·rintro⟨h1,h2⟩ y hy hn
    rcases List.mem_cons.1 hy with rfl|hy
    ·exact h1
    ·exact h2 y hy hn
   ·intro h
    exact⟨h z (List.mem_cons_self ..) (by omega),fun y hy=>h y (List.mem_cons_of_mem _ hy)⟩
structure Hgt (G:Gr) (H:List Nat):Prop where
 n:H.length=G.ns.length
 p:∀j:Nat,j<G.ns.length→(0<H.getD j 0↔Gn true G.rs (j:Int))
 le:∀x∈G.rs,Al true G.rs x.r→H.getD x.l.toNat 0≤topH H x.r+1
 ex:∀j:Nat,j<G.ns.length→Gn true G.rs (j:Int)→∃x∈G.rs,x.l=(j:Int)∧Al true G.rs x.r∧H.getD j 0=topH H x.r+1
theorem Hgt.below {G:Gr} {H H':List Nat} (hl:Lin G.ns.length G.rs) (h:Hgt G H) (h':Hgt G H'):∀(k j:Nat),H'.getD j 0=k→0<k→H.getD j 0≤k:=by
 intro k
 induction k using Nat.strongRecOn with
 | ind k ih =>
  intro j hj hk
  have hlt:j<G.ns.length:=by
   rcases Nat.lt_or_ge j G.ns.length with h1|h1
   ·exact h1
   ·rw[List.getD_eq_getElem?_getD,List.getElem?_eq_none (by rw[h'.n];exact h1)]at hj;simp at hj;omega
  have hp:=(h'.p j hlt).1 (by omega)
  obtain⟨x,hx,e,ha,e2⟩:=h'.ex j hlt hp
  have h1:=h.le x hx ha
  rw[e,Int.toNat_natCast]at h1
  have h2:topH H x.r≤topH H' x.r:=by
   rw[topH_le]
   intro z hz hn
   have h3:=topH_le.1 (Nat.le_refl (topH H' x.r)) z hz hn
   have h4:0<H'.getD (-1-z).toNat 0:=by
    have h5:=ha.2 z hz hn
    have h6:=h5.lin hl
    refine(h'.p _ (by omega)).2 ?_
    rw[Int.toNat_of_nonneg h6.1];exact h5
   exact Nat.le_trans (ih _ (by omega) _ rfl h4) h3
  omega
theorem Hgt.one {G:Gr} {H H':List Nat} (hl:Lin G.ns.length G.rs) (h:Hgt G H) (h':Hgt G H'):H=H':=by
 refine List.ext_getElem (by rw[h.n,h'.n]) fun j h1 h2=>?_
 have e1:H.getD j 0=H[j]:=by simp[List.getD_eq_getElem?_getD,h1]
 have e2:H'.getD j 0=H'[j]:=by simp[List.getD_eq_getElem?_getD,h2]
 rw[←e1,←e2]
 have hj:j<G.ns.length:=by rw[←h.n];exact h1
 by_cases hp:Gn true G.rs (j:Int)
 ·have a:=(h.p j hj).2 hp
  have b:=(h'.p j hj).2 hp
  have c:=h.below hl h' _ j rfl b
  have d:=h'.below hl h _ j rfl a
  omega
 ·have a:¬0<H.getD j 0:=fun q=>hp ((h.p j hj).1 q)
  have b:¬0<H'.getD j 0:=fun q=>hp ((h'.p j hj).1 q)
  omega
def zaZ (H:List Nat) (r:List Int):Nat:=if r.all (fun z=>decide (0≤z)||decide (0<H.getD (-1-z).toNat 0))=true then topH H r+1 else 0
theorem zcq {H:List Nat} {r:List Int} (h:∀z∈r,z<0→0<H.getD (-1-z).toNat 0):zaZ H r=topH H r+1:=by
 unfold zaZ
 rw[if_pos]
 rw[List.all_eq_true]
 intro z hz
 by_cases h0:0≤z
 ·rw[decide_eq_true h0];rfl
 ·rw[decide_eq_true (h z hz (by omega)),Bool.or_true]
theorem zcU {H:List Nat} {r:List Int} {k:Nat} (h:zaZ H r=k+1):topH H r=k∧∀z∈r,z<0→0<H.getD (-1-z).toNat 0:=by
 unfold zaZ at h
 split at h
 ·rename_i e
  rw[List.all_eq_true]at e
  refine⟨by omega,fun z hz hn=>?_⟩
  have:=e z hz
  rw[decide_eq_false (by omega),Bool.false_or,decide_eq_true_eq]at this
  exact this
 ·omega
def hi1 (old:List Nat) (h:Nat) (out:List Nat) (x:Rl):List Nat:=if out.getD x.l.toNat 0=0∧zaZ old x.r=h then out.set x.l.toNat h else out
def hiP (rs:List Rl) (h:Nat) (out:List Nat):List Nat:=rs.foldl (hi1 out h) out
def hiN (rs:List Rl):Nat→List Nat→List Nat
 | 0,s=>s
 | k+1,s=>hiP rs (k+1) (hiN rs k s)
theorem zcs (old:List Nat) (h:Nat) (out:List Nat) (x:Rl):(hi1 old h out x).length=out.length:=by
 unfold hi1;split <;> simp
theorem zgp (rs:List Rl) (h:Nat) (out:List Nat):(hiP rs h out).length=out.length:=zdK (zcs out h) rs out
theorem zdj (rs:List Rl) (k:Nat) (s:List Nat):(hiN rs k s).length=s.length:=by
 induction k with
 | zero=>rfl
 | succ k ih=>rw[hiN,zgp,ih]
theorem zeT {old:List Nat} {h:Nat} {out:List Nat} {x:Rl} (hx:x.l.toNat<out.length) (j:Nat):(hi1 old h out x).getD j 0=if out.getD j 0=0∧x.l.toNat=j∧zaZ old x.r=h then h else out.getD j 0:=by
 by_cases c:out.getD x.l.toNat 0=0∧zaZ old x.r=h
 ·have e1:hi1 old h out x=out.set x.l.toNat h:=if_pos c
  rw[e1]
  by_cases hj:x.l.toNat=j
  ·subst hj
   rw[if_pos ⟨c.1,rfl,c.2⟩,List.getD_eq_getElem?_getD,List.getElem?_set_self hx];rfl
  ·rw[if_neg (fun q=>hj q.2.1),List.getD_eq_getElem?_getD,List.getElem?_set_ne hj,←List.getD_eq_getElem?_getD]
 ·have e1:hi1 old h out x=out:=if_neg c
  rw[e1,if_neg]
  rintro⟨a,rfl,b⟩
  exact c ⟨a,b⟩
theorem zcr (old:List Nat) (h j:Nat):∀(xs:List Rl) (out:List Nat),(∀x∈xs,x.l.toNat<out.length)→out.getD j 0≠0→(xs.foldl (hi1 old h) out).getD j 0=out.getD j 0
 | [],_,_,_=>rfl
 | x::xs,out,hl,h0=>by
  have e:=zeT (old:=old) (h:=h) (hl x (List.mem_cons_self ..)) j
  rw[if_neg (fun q=>h0 q.1)]at e
  rw[List.foldl_cons,zcr old h j xs _ (fun y hy=>by rw[zcs];exact hl y (List.mem_cons_of_mem _ hy)) (by rw[e];exact h0),e]
theorem zeS (old:List Nat) (h j:Nat) (hh:0<h):∀(xs:List Rl) (out:List Nat),(∀x∈xs,x.l.toNat<out.length)→out.getD j 0=0→(∃x∈xs,x.l.toNat=j∧zaZ old x.r=h)→(xs.foldl (hi1 old h) out).getD j 0=h
 | [],_,_,_,q=>by obtain⟨x,hx,_⟩:=q;cases hx
 | x::xs,out,hl,h0,q=>by
  have e:=zeT (old:=old) (h:=h) (hl x (List.mem_cons_self ..)) j
  have hl2:∀y∈xs,y.l.toNat<(hi1 old h out x).length:=fun y hy=>by rw[zcs];exact hl y (List.mem_cons_of_mem _ hy)
  rw[List.foldl_cons]
  by_cases c:x.l.toNat=j∧zaZ old x.r=h
  ·rw[if_pos ⟨h0,c⟩]at e
   rw[zcr old h j xs _ hl2 (by omega),e]
  ·rw[if_neg (fun q=>c q.2)]at e
   refine zeS old h j hh xs _ hl2 (e.trans h0) ?_
   obtain⟨y,hy,k⟩:=q
   rcases List.mem_cons.1 hy with rfl|hy
   ·exact absurd k c
   ·exact⟨y,hy,k⟩
theorem zeR (old:List Nat) (h j:Nat):∀(xs:List Rl) (out:List Nat),(∀x∈xs,x.l.toNat<out.length)→(¬ ∃x∈xs,x.l.toNat=j∧zaZ old x.r=h)→(xs.foldl (hi1 old h) out).getD j 0=out.getD j 0
 | [],_,_,_=>rfl
 | x::xs,out,hl,q=>by
  have e:=zeT (old:=old) (h:=h) (hl x (List.mem_cons_self ..)) j
  rw[if_neg (fun k=>q ⟨x,List.mem_cons_self ..,k.2⟩)]at e
  rw[List.foldl_cons,zeR old h j xs _ (fun y hy=>by rw[zcs];exact hl y (List.mem_cons_of_mem _ hy)) (fun⟨y,hy,k⟩=>q ⟨y,List.mem_cons_of_mem _ hy,k⟩),e]
theorem zg0 (old:List Nat) (h:Nat) (hh:0<h) (j:Nat) (xs:List Rl) (out:List Nat) (hl:∀x∈xs,x.l.toNat<out.length):(xs.foldl (hi1 old h) out).getD j 0=if out.getD j 0=0∧(∃x∈xs,x.l.toNat=j∧zaZ old x.r=h) then h else out.getD j 0:=by
 by_cases h0:out.getD j 0=0
 ·by_cases q:∃x∈xs,x.l.toNat=j∧zaZ old x.r=h
  ·rw[if_pos ⟨h0,q⟩];exact zeS old h j hh xs out hl h0 q
  ·rw[if_neg (fun k=>q k.2)];exact zeR old h j xs out hl q
 ·rw[if_neg (fun k=>h0 k.1)];exact zcr old h j xs out hl h0
def Der (rs:List Rl):Nat→Int→Prop
 | 0,_=>False
 | k+1,j=>∃x∈rs,x.l=j∧∀z∈x.r,z<0→Der rs k (-1-z)
theorem Der.more {rs:List Rl} {k:Nat}:∀ {j:Int},Der rs k j→Der rs (k+1) j:=by
 induction k with
 | zero=>intro j h;exact h.elim
 | succ k ih =>
  rintro j ⟨x,hx,e,h⟩
  exact⟨x,hx,e,fun z hz hn=>ih (h z hz hn)⟩
theorem Der.le {rs:List Rl} {k m:Nat} (h:k≤m) {j:Int} (hd:Der rs k j):Der rs m j:=by
 induction h with
 | refl=>exact hd
 | step _ ih=>exact ih.more
theorem Der.gn {rs:List Rl} {k:Nat}:∀ {j:Int},Der rs k j→Gn true rs j:=by
 induction k with
 | zero=>intro j h;exact h.elim
 | succ k ih =>
  rintro j ⟨x,hx,rfl,h⟩
  exact .mk x hx (fun _ _ _=>rfl) fun z hz hn=>ih (h z hz hn)
theorem zg9 {rs:List Rl} {j:Int} (h:Gn true rs j):∃k,Der rs k j:=by
 induction h with
 | mk x hx _ _ ih =>
  have:∀r:List Int,(∀z∈r,z∈x.r)→∃k,∀z∈r,z<0→Der rs k (-1-z):=by
   intro r
   induction r with
   | nil=>intro _;exact⟨0,by simp⟩
   | cons y r ihr =>
    intro hr
    obtain⟨k,hk⟩:=ihr fun z hz=>hr z (List.mem_cons_of_mem _ hz)
    by_cases hy:y<0
    ·obtain⟨m,hm⟩:=ih y (hr y (List.mem_cons_self ..)) hy
     refine⟨max k m,fun z hz hn=>?_⟩
     rcases List.mem_cons.1 hz with rfl|hz
     ·exact hm.le (Nat.le_max_right ..)
     ·exact(hk z hz hn).le (Nat.le_max_left ..)
    ·refine⟨k,fun z hz hn=>?_⟩
     rcases List.mem_cons.1 hz with rfl|hz
     ·omega
     ·exact hk z hz hn
  obtain⟨k,hk⟩:=this x.r fun _ h=>h
  exact⟨k+1,x,hx,rfl,hk⟩
def zbf (rs:List Rl) (k:Nat) (H:List Nat):Prop:=∀j:Nat,(∀m,0<m→(H.getD j 0=m↔m≤k∧Der rs m (j:Int)∧¬Der rs (m-1) (j:Int)))
theorem zbf.zero {rs:List Rl} {k:Nat} {H:List Nat} (h:zbf rs k H) (j:Nat):H.getD j 0=0 ↔ ¬Der rs k (j:Int):=by
 constructor
 ·intro h0 hd
  have:∃m,m≤k∧0<m∧Der rs m (j:Int)∧¬Der rs (m-1) (j:Int):=by
   clear h0 h
   induction k with
   | zero=>exact hd.elim
   | succ k ih =>
    by_cases hk:Der rs k (j:Int)
    ·obtain⟨m,h1,h2,h3⟩:=ih hk
     exact⟨m,by omega,h2,h3⟩
    ·exact⟨k+1,Nat.le_refl _,by omega,hd,hk⟩
  obtain⟨m,h1,h2,h3⟩:=this
  have:=(h j m h2).2 ⟨h1,h3⟩
  omega
 ·intro hn
  rcases Nat.eq_zero_or_pos (H.getD j 0) with h0|h0
  ·exact h0
  ·have:=(h j _ h0).1 rfl
   exact absurd (this.2.1.le this.1) hn
theorem zbf.le {rs:List Rl} {k:Nat} {H:List Nat} (h:zbf rs k H) (j:Nat):H.getD j 0≤k:=by
 rcases Nat.eq_zero_or_pos (H.getD j 0) with h0|h0
 ·omega
 ·exact((h j _ h0).1 rfl).1
theorem zbf.pos {rs:List Rl} {k:Nat} {H:List Nat} (h:zbf rs k H) (j:Nat):0<H.getD j 0↔Der rs k (j:Int):=by
 have:=h.zero j
 constructor
 ·intro h1
  exact Classical.byContradiction fun hn=>by have:=this.2 hn;omega
 ·intro hd
  rcases Nat.eq_zero_or_pos (H.getD j 0) with h0|h0
  ·exact absurd hd (this.1 h0)
  ·exact h0
theorem zbf.der {rs:List Rl} {k:Nat} {H:List Nat} (h:zbf rs k H) (j:Nat) (m:Nat) (hm:Der rs m (j:Int)) (hk:0<H.getD j 0):H.getD j 0≤m:=by
 have h1:=(h j _ hk).1 rfl
 rcases Nat.lt_or_ge m (H.getD j 0) with h2|h2
 ·exact absurd (hm.le (show m≤H.getD j 0-1 by omega)) h1.2.2
 ·exact h2
theorem zbf.next {rs:List Rl} {k:Nat} {H:List Nat} {n:Nat} (hl:Lin n rs) (hn:H.length=n) (h:zbf rs k H):zbf rs (k+1) (hiP rs (k+1) H):=by
 have hlen:∀x∈rs,x.l.toNat<H.length:=fun x hx=>by have:=hl x hx;omega
 have hrule:∀x∈rs,(∀z∈x.r,z<0→Der rs k (-1-z))→topH H x.r≤k∧zaZ H x.r=topH H x.r+1:=fun x hx hz=>by
  have hpos:∀z∈x.r,z<0→0<H.getD (-1-z).toNat 0:=fun z hz' hn'=>(h.pos _).2 (by rw[Int.toNat_of_nonneg (by omega)];exact hz z hz' hn')
  exact⟨topH_le.2 fun z _ _=>h.le _,zcq hpos⟩
 intro j m hm
 rw[hiP,zg0 H (k+1) (by omega) j rs H hlen]
 by_cases h0:H.getD j 0=0
 ·have hnd:=(h.zero j).1 h0
  by_cases hx:∃x∈rs,x.l.toNat=j∧zaZ H x.r=k+1
  ·rw[if_pos ⟨h0,hx⟩]
   obtain⟨x,hx,e,h1⟩:=hx
   obtain⟨h2,h3⟩:=zcU h1
   have hd:Der rs (k+1) (j:Int):=⟨x,hx,by have:=hl x hx;omega,fun z hz hn'=>by
    have:=(h.pos _).1 (h3 z hz hn')
    rwa [Int.toNat_of_nonneg (by omega)]at this⟩
   constructor
   ·rintro rfl
    exact⟨Nat.le_refl _,hd,hnd⟩
   ·rintro⟨h4,h5,h6⟩
    rcases Nat.lt_or_ge m (k+1) with h7|h7
    ·exact absurd (h5.le (by omega)) hnd
    ·omega
  ·rw[if_neg (fun q=>hx q.2),h0]
   constructor
   ·intro e;omega
   ·rintro⟨h4,h5,h6⟩
    exfalso
    rcases Nat.lt_or_ge m (k+1) with h7|h7
    ·exact hnd (h5.le (by omega))
    ·have:m=k+1:=by omega
     subst this
     obtain⟨x,hx',e,h8⟩:=h5
     have h9:=hrule x hx' h8
     have h10:topH H x.r=k:=by
      rcases Nat.lt_or_ge (topH H x.r) k with h11|h11
      ·exfalso
       refine hnd ?_
       have h12:=topH_le.1 (Nat.le_refl (topH H x.r))
       refine Der.le (show topH H x.r+1≤k by omega) ⟨x,hx',e,fun z hz hn'=>?_⟩
       have h13:0<H.getD (-1-z).toNat 0:=(h.pos _).2 (by rw[Int.toNat_of_nonneg (by omega)];exact h8 z hz hn')
       have h14:=((h _ _ h13).1 rfl).2.1
       rw[Int.toNat_of_nonneg (by omega)]at h14
       exact h14.le (h12 z hz hn')
      ·omega
     exact hx ⟨x,hx',by rw[e];simp,by rw[h9.2,h10]⟩
 ·rw[if_neg (fun q=>h0 q.1)]
  have h1:=h.le j
  constructor
  ·intro e
   have:=(h j m hm).1 e
   exact⟨by omega,this.2⟩
  ·rintro⟨h2,h3,h4⟩
   refine(h j m hm).2 ⟨?_,h3,h4⟩
   rcases Nat.lt_or_ge m (k+1) with h5|h5
   ·omega
   ·have:m=k+1:=by omega
    subst this
    exact absurd ((h.pos j).1 (by omega)) h4
theorem zbL {rs:List Rl} {n:Nat} (hl:Lin n rs) (k:Nat):zbf rs k (hiN rs k (List.replicate n 0)):=by
 induction k with
 | zero =>
  intro j m hm
  rw[hiN,List.getD_eq_getElem?_getD,List.getElem?_replicate]
  constructor
  ·intro e;split at e <;> simp at e <;> omega
  ·rintro⟨h1,_⟩;omega
 | succ k ih=>rw[hiN];exact ih.next hl (by rw[zdj];simp)
theorem zbc {rs:List Rl} {n:Nat} (hl:Lin n rs) {j:Int} (h:Gn true rs j):Der rs n j:=by
 let F:List Bool→List Bool:=fun is=>(List.range n).map fun i:Nat=>is.getD i false||tr (∃x∈rs,x.l=(i:Int)∧∀z∈x.r,z<0→is.getD (-1-z).toNat false=true)
 have hat:∀(is:List Bool) (i:Nat),i<n→((F is).getD i false=true↔is.getD i false=true ∨ ∃x∈rs,x.l=(i:Int)∧∀z∈x.r,z<0→is.getD (-1-z).toNat false=true):=fun is i hi=>by
  show((List.range n).map _).getD i false=true↔_
  rw[List.getD_eq_getElem?_getD,List.getElem?_map,List.getElem?_range hi]
  show(is.getD i false||tr _)=true↔_
  rw[Bool.or_eq_true,tr_iff]
 let f:List Bool→List Bool:=fun is=>if is.length=n then F is else is
 have hf:∀s,Le s (f s):=fun s=>by
  show Le s (if s.length=n then F s else s)
  split
  ·rename_i hs
   refine Le.of (by simp[F,hs]) fun i hi=>?_
   have hlt:i<n:=by
    rcases Nat.lt_or_ge i s.length with h1|h1
    ·omega
    ·rw[List.getD_eq_getElem?_getD,List.getElem?_eq_none h1]at hi;cases hi
   exact(hat s i hlt).2 (.inl hi)
  ·exact Le.refl s
 have h0:(List.replicate n false).length=n:=by simp
 have hlen:∀m,(aQ f m (List.replicate n false)).length=n:=fun m=>by rw[←(zdt hf m _).len,h0]
 have hstep:∀m,aQ f (m+1) (List.replicate n false)=F (aQ f m (List.replicate n false)):=fun m=>by rw[aQ];exact if_pos (hlen m)
 have key:∀m (i:Nat),i<n→((aQ f m (List.replicate n false)).getD i false=true↔Der rs m (i:Int)):=by
  intro m
  induction m with
  | zero =>
   intro i _
   exact⟨fun hi=>absurd ((zhB.none (fun _=>False) _) i hi) id,fun hi=>hi.elim⟩
  | succ m ih =>
   intro i hi
   rw[hstep,hat _ i hi]
   constructor
   ·rintro(h1|⟨x,hx,e,h1⟩)
    ·exact((ih i hi).1 h1).more
    ·refine⟨x,hx,e,fun z hz hn=>?_⟩
     have h2:=h1 z hz hn
     have hlt:(-1-z).toNat<n:=by
      rcases Nat.lt_or_ge (-1-z).toNat n with h3|h3
      ·exact h3
      ·rw[List.getD_eq_getElem?_getD,List.getElem?_eq_none (by rw[hlen];exact h3)]at h2;cases h2
     have:=(ih _ hlt).1 h2
     rwa [Int.toNat_of_nonneg (by omega)]at this
   ·rintro⟨x,hx,e,h1⟩
    refine .inr ⟨x,hx,e,fun z hz hn=>?_⟩
    have h2:=h1 z hz hn
    have h3:=h2.gn.lin hl
    refine(ih _ (by omega)).2 ?_
    rw[Int.toNat_of_nonneg h3.1];exact h2
 have hfix:=zej hf (List.replicate n false)
 rw[h0]at hfix
 have e:f (aQ f n (List.replicate n false))=F (aQ f n (List.replicate n false)):=if_pos (hlen _)
 rw[e]at hfix
 have hdown:∀j:Int,Der rs (n+1) j→Der rs n j:=fun j hd=>by
  have h1:=hd.gn.lin hl
  have h2:=(key n j.toNat (by omega)).1 (by
   rw[←hfix,←hstep]
   exact(key (n+1) j.toNat (by omega)).2 (by rw[Int.toNat_of_nonneg h1.1];exact hd))
  rwa [Int.toNat_of_nonneg h1.1]at h2
 have hany:∀k (j:Int),Der rs k j→Der rs n j:=by
  intro k
  induction k with
  | zero=>intro j hd;exact hd.elim
  | succ k ih =>
   rintro j ⟨x,hx,e,h1⟩
   exact hdown j ⟨x,hx,e,fun z hz hn=>ih _ (h1 z hz hn)⟩
 obtain⟨k,hk⟩:=zg9 h
 exact hany k j hk
theorem hgt_hi {G:Gr} (h:Ok G):Hgt G (hiN G.rs G.ns.length (List.replicate G.ns.length 0)):=by
 have hl:=h.lin
 have hk:=zbL hl G.ns.length
 have hlen:(hiN G.rs G.ns.length (List.replicate G.ns.length 0)).length=G.ns.length:=by rw[zdj];simp
 generalize hiN G.rs G.ns.length (List.replicate G.ns.length 0)=H at *
 have hpos:∀j:Int,Gn true G.rs j→0<H.getD j.toNat 0:=fun j hj=>(hk.pos _).2 (by rw[Int.toNat_of_nonneg (hj.lin hl).1];exact zbc hl hj)
 have hder:∀z:Int,z<0→0<H.getD (-1-z).toNat 0→Der G.rs (H.getD (-1-z).toNat 0) (-1-z):=fun z hz hp=>by
  have:=((hk _ _ hp).1 rfl).2.1
  rwa [Int.toNat_of_nonneg (by omega)]at this
 have hle:∀x∈G.rs,Al true G.rs x.r→H.getD x.l.toNat 0≤topH H x.r+1:=fun x hx ha=>by
  refine hk.der _ _ ?_ (hpos _ (.of hx ha))
  rw[Int.toNat_of_nonneg (hl x hx).1]
  refine⟨x,hx,rfl,fun z hz hn=>?_⟩
  exact(hder z hn (hpos _ (ha.2 z hz hn))).le (topH_le.1 (Nat.le_refl _) z hz hn)
 refine⟨hlen,fun j hj=>?_,hle,fun j hj hp=>?_⟩
 ·rw[hk.pos]
  exact⟨fun hd=>hd.gn,zbc hl⟩
 ·have h1:=hpos _ hp
  rw[Int.toNat_natCast]at h1
  obtain⟨h2,h3,_⟩:=(hk j _ h1).1 rfl
  obtain⟨m,hm⟩:∃m,H.getD j 0=m+1:=⟨H.getD j 0-1,by omega⟩
  rw[hm]at h3
  obtain⟨x,hx,e,h4⟩:=h3
  have ha:Al true G.rs x.r:=⟨fun _ _ _=>rfl,fun z hz hn=>(h4 z hz hn).gn⟩
  refine⟨x,hx,e,ha,?_⟩
  have h5:=hle x hx ha
  rw[e,Int.toNat_natCast]at h5
  have h6:topH H x.r≤m:=topH_le.2 fun z hz hn=>hk.der _ _ (by rw[Int.toNat_of_nonneg (by omega)];exact h4 z hz hn) (hpos _ (ha.2 z hz hn))
  omega
def hts (G:Gr):List Nat:=hiN G.rs G.ns.length (List.replicate G.ns.length 0)
def zaL (H:List Nat) (j:Nat) (x:Rl):Bool:=x.l==(j:Int)&&decide (0<H.getD j 0)&&zaZ H x.r==H.getD j 0
def zbU (G:Gr) (H:List Nat) (j:Nat):Int:=match (List.range G.rs.length).find? (fun i=>(G.rs[i]?).any (zaL H j)) with
 | some i=>i
 | none=>-1
def best (G:Gr) (H:List Nat):List Int:=(List.range G.ns.length).map (zbU G H)
end Gm
namespace Gm
theorem zgY {G:Gr} (h:Ok G) (j:Nat):(hts G).getD j 0≤G.ns.length:=(zbL h.lin G.ns.length).le j
def zhl (G:Gr) (k:Int):Rl:=G.rs.getD k.toNat ⟨0,[],0⟩
theorem zcw {G:Gr} (h:Ok G) {j:Nat} (hp:Gn true G.rs (j:Int)):∃i:Nat,zbU G (hts G) j=(i:Int)∧∃hi:i<G.rs.length,(G.rs[i]).l=(j:Int)∧Al true G.rs (G.rs[i]).r∧(hts G).getD j 0=topH (hts G) (G.rs[i]).r+1∧∀k (hk:k<i),zaL (hts G) j (G.rs[k]'(by omega))=false:=by
 have hH:Hgt G (hts G):=hgt_hi h
 have hl:=h.lin
 have hj:=hp.lin hl
 have hpos:=(hH.p j (by omega)).2 hp
 obtain⟨x,hx,e,ha,e2⟩:=hH.ex j (by omega) hp
 have hkn:∀r:List Int,Al true G.rs r→∀z∈r,z<0→0<(hts G).getD (-1-z).toNat 0:=fun r ha z hz hn=>by
  have h1:=ha.2 z hz hn
  have h2:=h1.lin hl
  refine(hH.p _ (by omega)).2 ?_
  rw[Int.toNat_of_nonneg h2.1];exact h1
 have hb:zaL (hts G) j x=true:=by
  unfold zaL
  rw[zcq (hkn x.r ha),e,←e2]
  simp
  exact hpos
 obtain⟨n,hn,e3⟩:=List.getElem_of_mem hx
 have hs:((List.range G.rs.length).find? fun i=>(G.rs[i]?).any (zaL (hts G) j)).isSome=true:=by
  rw[List.find?_isSome]
  exact⟨n,List.mem_range.2 hn,by rw[List.getElem?_eq_getElem hn,e3];exact hb⟩
 unfold zbU
 rcases hf:(List.range G.rs.length).find? (fun i=>(G.rs[i]?).any (zaL (hts G) j)) with _|i
 ·rw[hf]at hs;cases hs
 ·have h1:=List.find?_some hf
  have hi:=List.mem_range.1 (List.mem_of_find?_eq_some hf)
  simp only[List.getElem?_eq_getElem hi,Option.any_some]at h1
  have h2:=h1
  unfold zaL at h1
  rw[Bool.and_eq_true,Bool.and_eq_true,beq_iff_eq,decide_eq_true_eq,beq_iff_eq]at h1
  obtain⟨m,hm⟩:∃m,(hts G).getD j 0=m+1:=⟨(hts G).getD j 0-1,by omega⟩
  have h3:=zcU (h1.2.trans hm)
  refine⟨i,rfl,hi,h1.1.1,⟨fun _ _ _=>rfl,fun z hz hn=>?_⟩,by omega,fun k hk=>?_⟩
  ·have h4:=h3.2 z hz hn
   rcases Nat.lt_or_ge (-1-z).toNat G.ns.length with h5|h5
   ·have:=(hH.p _ h5).1 h4
    rwa [Int.toNat_of_nonneg (by omega)]at this
   ·exfalso
    have:(hts G).length=G.ns.length:=hH.n
    rw[List.getD_eq_getElem?_getD,List.getElem?_eq_none (by omega)]at h4
    simp at h4
  ·have h4:=(List.find?_eq_some_iff_getElem.1 hf).2
   obtain⟨a,ha1,ha2,ha3⟩:=h4
   rw[List.getElem_range]at ha2
   subst ha2
   have:=ha3 k hk
   rw[List.getElem_range,List.getElem?_eq_getElem (by omega),Option.any_some]at this
   simpa using this
theorem ze3 {G:Gr} (h:Ok G) {j:Nat} (hj:j<G.ns.length) (hp:¬Gn true G.rs (j:Int)):zbU G (hts G) j = -1:=by
 unfold zbU
 rcases hf:(List.range G.rs.length).find? (fun i=>(G.rs[i]?).any (zaL (hts G) j)) with _|i
 ·rfl
 ·exfalso
  have h1:=List.find?_some hf
  have hi:=List.mem_range.1 (List.mem_of_find?_eq_some hf)
  simp only[List.getElem?_eq_getElem hi,Option.any_some]at h1
  unfold zaL at h1
  rw[Bool.and_eq_true,Bool.and_eq_true,decide_eq_true_eq]at h1
  exact hp (((hgt_hi h).p j hj).1 h1.1.2)
theorem zbd {G:Gr} {j:Nat} (hj:j<G.ns.length):(best G (hts G)).getD j (-1)=zbU G (hts G) j:=by
 unfold best
 rw[List.getD_eq_getElem?_getD,List.getElem?_map,List.getElem?_range hj];rfl
def lrt (G:Gr) (z:Int):List Int:=(zhl G ((best G (hts G)).getD (-1-z).toNat (-1))).r
def lnm (G:Gr) (z:Int):Nat:=((best G (hts G)).getD (-1-z).toNat (-1)).toNat
def ltr (G:Gr):Nat→List Int→List Nat
 | 0,_=>[]
 | f+1,l=>l.flatMap fun z=>if 0≤z then [] else lnm G z::ltr G f (lrt G z)
def lwd (G:Gr):Nat→List Int→List Int
 | 0,l=>l.flatMap fun z=>if 0≤z then [z] else []
 | f+1,l=>l.flatMap fun z=>if 0≤z then [z] else lwd G f (lrt G z)
abbrev Pr (G:Gr) (l:List Int):Prop:=∀z∈l,z<0→Gn true G.rs (-1-z)
theorem lrt_of {G:Gr} (h:Ok G) {z:Int} (hz:z<0) (hp:Gn true G.rs (-1-z)):Pr G (lrt G z)∧(hts G).getD (-1-z).toNat 0=topH (hts G) (lrt G z)+1∧lnm G z<G.rs.length:=by
 have hj:=hp.lin h.lin
 have hp':Gn true G.rs ((-1-z).toNat:Int):=by rw[Int.toNat_of_nonneg hj.1];exact hp
 obtain⟨i,e,hi,_,ha,e2,_⟩:=zcw h hp'
 have hb:=zbd (G:=G) (j:=(-1-z).toNat) (by omega)
 unfold lrt lnm zhl
 rw[hb,e]
 have e3:G.rs.getD (i:Int).toNat ⟨0,[],0⟩=G.rs[i]:=by simp[List.getD_eq_getElem?_getD,hi]
 rw[e3]
 exact⟨fun y hy hn=>ha.2 y hy hn,e2,by simpa using hi⟩
theorem zar {α β:Type} {l:List α} {f g:α→List β} (h:∀x∈l,f x=g x):l.flatMap f=l.flatMap g:=by
 induction l with
 | nil=>rfl
 | cons x l ih=>rw[List.flatMap_cons,List.flatMap_cons,h x (List.mem_cons_self ..),ih fun y hy=>h y (List.mem_cons_of_mem _ hy)]
theorem zdF {G:Gr} (h:Ok G):∀(f:Nat) (l:List Int),Pr G l→topH (hts G) l≤f→ltr G f l=ltr G (f+1) l
 | 0,l,hp,ht=>by
  rw[ltr,ltr]
  have:∀z∈l,0≤z:=fun z hz=>by
   rcases Int.lt_or_le z 0 with h1|h1
   ·have h2:=topH_le.1 ht z hz h1
    have h3:=(lrt_of h h1 (hp z hz h1)).2.1
    omega
   ·exact h1
  rw[zar (g:=fun _=>[]) fun z hz=>if_pos (this z hz)]
  simp
 | f+1,l,hp,ht=>by
  rw[ltr,ltr]
  refine zar fun z hz=>?_
  by_cases h0:0≤z
  ·rw[if_pos h0,if_pos h0]
  ·rw[if_neg h0,if_neg h0]
   have h1:=lrt_of h (by omega) (hp z hz (by omega))
   have h2:=topH_le.1 ht z hz (by omega)
   rw[zdF h f _ h1.1 (by omega)]
theorem zdD {G:Gr} (h:Ok G):∀(f:Nat) (l:List Int),Pr G l→topH (hts G) l≤f→lwd G f l=lwd G (f+1) l
 | 0,l,hp,ht=>by
  rw[lwd,lwd]
  refine zar fun z hz=>?_
  by_cases h0:0≤z
  ·rw[if_pos h0,if_pos h0]
  ·have h2:=topH_le.1 ht z hz (by omega)
   have h3:=(lrt_of h (show z<0 by omega) (hp z hz (by omega))).2.1
   omega
 | f+1,l,hp,ht=>by
  rw[lwd,lwd]
  refine zar fun z hz=>?_
  by_cases h0:0≤z
  ·rw[if_pos h0,if_pos h0]
  ·rw[if_neg h0,if_neg h0]
   have h1:=lrt_of h (by omega) (hp z hz (by omega))
   have h2:=topH_le.1 ht z hz (by omega)
   rw[zdD h f _ h1.1 (by omega)]
def ltree (G:Gr) (l:List Int):List Nat:=ltr G G.ns.length l
def lword (G:Gr) (l:List Int):List Int:=lwd G G.ns.length l
theorem zfU {G:Gr} (h:Ok G) (l:List Int):topH (hts G) l≤G.ns.length:=topH_le.2 fun _ _ _=>zgY h _
theorem zaV {G:Gr} (h:Ok G) {l:List Int} (hp:Pr G l):ltree G l=l.flatMap fun z=>if 0≤z then [] else lnm G z::ltree G (lrt G z):=by
 unfold ltree
 rw[zdF h _ l hp (zfU h l)]
 rfl
theorem zaT {G:Gr} (h:Ok G) {l:List Int} (hp:Pr G l):lword G l=l.flatMap fun z=>if 0≤z then [z] else lword G (lrt G z):=by
 unfold lword
 rw[zdD h _ l hp (zfU h l)]
 rfl
theorem za4 {G:Gr} (h:Ok G) {a b:List Int} (ha:Pr G a) (hb:Pr G b):ltree G (a++b)=ltree G a++ltree G b:=by
 rw[zaV h ha,zaV h hb,zaV h (fun z hz hn=>(List.mem_append.1 hz).elim (fun k=>ha z k hn) (fun k=>hb z k hn)),List.flatMap_append]
theorem za3 {G:Gr} (h:Ok G) {a b:List Int} (ha:Pr G a) (hb:Pr G b):lword G (a++b)=lword G a++lword G b:=by
 rw[zaT h ha,zaT h hb,zaT h (fun z hz hn=>(List.mem_append.1 hz).elim (fun k=>ha z k hn) (fun k=>hb z k hn)),List.flatMap_append]
theorem ltree_nil (G:Gr) (h:Ok G):ltree G []=[]:=by rw[zaV h (fun z hz=>by cases hz)];rfl
theorem lword_nil (G:Gr) (h:Ok G):lword G []=[]:=by rw[zaT h (fun z hz=>by cases hz)];rfl
theorem zaW {G:Gr} (h:Ok G) {z:Int} {l:List Int} (hp:Pr G (z::l)):ltree G (z::l)=(if 0≤z then [] else lnm G z::ltree G (lrt G z))++ltree G l:=by
 rw[zaV h hp,zaV h (fun y hy=>hp y (List.mem_cons_of_mem _ hy)),List.flatMap_cons]
theorem zaU {G:Gr} (h:Ok G) {z:Int} {l:List Int} (hp:Pr G (z::l)):lword G (z::l)=(if 0≤z then [z] else lword G (lrt G z))++lword G l:=by
 rw[zaT h hp,zaT h (fun y hy=>hp y (List.mem_cons_of_mem _ hy)),List.flatMap_cons]
end Gm
namespace Gm
structure Pl where
 n:Nat
 h:Nat
 i:Nat
structure Nx (rs:List Rl) (kn:List Bool) (h k:Nat) (pd:List Bool) (l:List Pl):Prop where
 n:pd.length=kn.length
 p:∀j:Nat,kn.getD j false=true→pd.getD j false=true
 f:∀i (hi:i<rs.length),i<k→allB true kn rs[i].r=true→pd.getD rs[i].l.toNat false=true
 a:∀q∈l,q.h=h∧kn.getD q.n false=false∧∃hi:q.i<rs.length,rs[q.i].l=(q.n:Int)∧allB true kn rs[q.i].r=true∧∀i (hk:i<q.i),(rs[i]'(by omega)).l=(q.n:Int)→allB true kn (rs[i]'(by omega)).r=false
 e:∀j:Nat,pd.getD j false=true→kn.getD j false=true ∨ ∃q∈l,q.n=j
 len:l.length≤k
theorem Nx.zero (rs:List Rl) (kn:List Bool) (h:Nat):Nx rs kn h 0 kn []:=⟨rfl,fun _ h=>h,fun _ _ h=>absurd h (by omega),fun _ h=>(by cases h),fun _ h=>.inl h,Nat.le_refl _⟩
theorem Nx.skip {rs:List Rl} {kn pd:List Bool} {h k:Nat} {l:List Pl} (x:Nx rs kn h k pd l) (hk:k<rs.length) (hc:pd.getD rs[k].l.toNat false=true∨allB true kn rs[k].r=false):Nx rs kn h (k+1) pd l :=
 by
 refine⟨x.n,x.p,fun i hi h1 h2=>?_,x.a,x.e,by have:=x.len;omega⟩
 rcases Nat.lt_or_ge i k with h3|h3
 ·exact x.f i hi h3 h2
 ·obtain rfl:i=k:=by omega
  rcases hc with h4|h4
  ·exact h4
  ·rw[h4]at h2;cases h2
theorem Nx.take {rs:List Rl} {kn pd:List Bool} {h k:Nat} {l:List Pl} (x:Nx rs kn h k pd l) (hk:k<rs.length) (hl:0≤rs[k].l) (hl2:rs[k].l.toNat<kn.length) (h1:pd.getD rs[k].l.toNat false=false) (h2:allB true kn rs[k].r=true):Nx rs kn h (k+1) (pd.set rs[k].l.toNat true) (l++[⟨rs[k].l.toNat,h,k⟩]):=by
 have hkn:kn.getD rs[k].l.toNat false=false:=by
  cases hb:kn.getD rs[k].l.toNat false
  ·rfl
  ·rw[x.p _ hb]at h1;cases h1
 refine⟨by rw[List.length_set,x.n],fun j hj=>(Le.set pd _).get _ (x.p j hj),fun i hi h3 h4=>?_,fun q hq=>?_,fun j hj=>?_,by rw[List.length_append];have:=x.len;simp;omega⟩
 ·rcases Nat.lt_or_ge i k with h5|h5
  ·exact(Le.set pd _).get _ (x.f i hi h5 h4)
  ·obtain rfl:i=k:=by omega
   exact zdv _ _ (by rw[x.n];exact hl2)
 ·rcases List.mem_append.1 hq with h3|h3
  ·exact x.a q h3
  ·rw[List.mem_singleton]at h3
   subst h3
   refine⟨rfl,hkn,hk,by simp only[];omega,h2,fun i hi he=>?_⟩
   cases hb:allB true kn (rs[i]'(by simp only[]at hi;omega)).r
   ·rfl
   ·have h4:=x.f i (by simp only[]at hi;omega) hi hb
    simp only[]at he
    rw[he,Int.toNat_natCast,h1]at h4;cases h4
 ·rcases zdJ _ _ _ hj with h3|h3
  ·rcases x.e j h3 with h4|⟨q,h4,h5⟩
   ·exact .inl h4
   ·exact .inr ⟨q,List.mem_append_left _ h4,h5⟩
  ·exact .inr ⟨_,List.mem_append_right _ (List.mem_singleton_self _),h3.symm⟩
def setP (s:List Bool) (l:List Pl):List Bool:=l.foldl (fun s q=>s.set q.n true) s
theorem setP_take {s:List Bool} {l:List Pl} {k:Nat} (h:k<l.length):setP s (l.take (k+1))=(setP s (l.take k)).set l[k].n true:=by
 unfold setP
 rw[List.take_succ_eq_append_getElem h,List.foldl_append];rfl
theorem setP_len (s:List Bool) (l:List Pl):(setP s l).length=s.length:=by
 unfold setP
 induction l generalizing s with
 | nil=>rfl
 | cons q l ih=>rw[List.foldl_cons,ih,List.length_set]
theorem zes:∀(l:List Pl) (s:List Bool) (j:Nat),(setP s l).getD j false=true→s.getD j false=true ∨ ∃q∈l,q.n=j
 | [],_,_,h=>.inl h
 | q::l,s,j,h=>by
  rcases zes l (s.set q.n true) j h with h1|⟨y,hy,h1⟩
  ·rcases zdJ _ _ _ h1 with h2|h2
   ·exact .inl h2
   ·exact .inr ⟨q,List.mem_cons_self ..,h2.symm⟩
  ·exact .inr ⟨y,List.mem_cons_of_mem _ hy,h1⟩
theorem zc7:∀(l:List Pl) (s:List Bool),Le s (setP s l)
 | [],s=>Le.refl s
 | q::l,s=>(Le.set s q.n).trans (zc7 l _)
theorem zdw:∀(l:List Pl) (s:List Bool),(∀q∈l,q.n<s.length)→∀q∈l,(setP s l).getD q.n false=true
 | [],_,_=>by simp
 | y::l,s,hi=>by
  intro q hq
  rcases List.mem_cons.1 hq with rfl|hq
  ·exact(zc7 l (s.set q.n true)).get _ (zdv _ _ (hi q (List.mem_cons_self ..)))
  ·exact zdw l _ (fun u hu=>by rw[List.length_set];exact hi u (List.mem_cons_of_mem _ hu)) q hq
structure Pls (G:Gr) (d:Nat) (kn:List Bool) (l:List Pl):Prop where
 n:kn.length=G.ns.length
 dl:d≤G.ns.length
 k:∀j:Nat,kn.getD j false=true↔Der G.rs d (j:Int)
 a:∀q∈l,q.n<G.ns.length∧(hts G).getD q.n 0=q.h∧0<q.h∧q.h≤d∧zbU G (hts G) q.n=(q.i:Int)∧q.i<G.rs.length
 e:∀j:Nat,kn.getD j false=true→∃q∈l,q.n=j
 o:∀b (hb:b<l.length) (j:Nat),0<(hts G).getD j 0→(hts G).getD j 0<l[b].h→∃c,∃hc:c<b,(l[c]'(by omega)).n=j
 len:l.length≤40*d
theorem Pls.zero (G:Gr):Pls G 0 (List.replicate G.ns.length false) []:=by
 have h:∀j,(List.replicate G.ns.length false).getD j false=false:=fun j=>by
  rw[List.getD_eq_getElem?_getD,List.getElem?_replicate]
  split <;> rfl
 exact⟨by simp,Nat.zero_le _,fun j=>⟨fun k=>(by rw[h]at k;cases k),fun k=>k.elim⟩,fun _ k=>(by cases k),fun j k=>(by rw[h]at k;cases k),fun b hb=>absurd hb (by simp),Nat.le_refl _⟩
theorem za6 {rs:List Rl} {kn:List Bool} {d:Nat} (hk:∀j:Nat,kn.getD j false=true↔Der rs d (j:Int)) (r:List Int):allB true kn r=true ↔ ∀z∈r,z<0→Der rs d (-1-z):=by
 unfold allB
 rw[List.all_eq_true]
 constructor
 ·intro h z hz hn
  have h1:=h z hz
  rw[if_neg (by omega)]at h1
  have h2:=(hk _).1 h1
  rwa [Int.toNat_of_nonneg (by omega)]at h2
 ·intro h z hz
  split
  ·rfl
  ·refine(hk _).2 ?_
   rw[Int.toNat_of_nonneg (by omega)];exact h z hz (by omega)
theorem zdI {G:Gr} (h:Ok G):zbf G.rs G.ns.length (hts G):=zbL h.lin G.ns.length
theorem zeQ {G:Gr} (h:Ok G) {d j:Nat} (h1:Der G.rs (d+1) (j:Int)) (h2:¬Der G.rs d (j:Int)):(hts G).getD j 0=d+1∧d<G.ns.length:=by
 have h3:=zbc h.lin h1.gn
 have h4:d<G.ns.length:=by
  rcases Nat.lt_or_ge d G.ns.length with h5|h5
  ·exact h5
  ·exact absurd (h3.le h5) h2
 exact⟨(zdI h j (d+1) (by omega)).2 ⟨h4,h1,h2⟩,h4⟩
theorem zdi {G:Gr} (h:Ok G) {d j:Nat} (h1:0<(hts G).getD j 0) (h2:(hts G).getD j 0≤d):Der G.rs d (j:Int):=((zdI h j _ h1).1 rfl).2.1.le h2
theorem zdm {G:Gr} (h:Ok G) {d j:Nat} (h1:Der G.rs d (j:Int)):0<(hts G).getD j 0∧(hts G).getD j 0≤d:=by
 have h2:=((zdI h).pos j).2 (zbc h.lin h1.gn)
 exact⟨h2,(zdI h).der j d h1 h2⟩
theorem zea {G:Gr} (h:Ok G) {d:Nat} {kn:List Bool} (hk:∀j:Nat,kn.getD j false=true↔Der G.rs d (j:Int)) {j i:Nat} (h0:(hts G).getD j 0=d+1) (hi:i<G.rs.length) (h1:G.rs[i].l=(j:Int)) (h2:allB true kn G.rs[i].r=true) (h3:∀m (hm:m<i),(G.rs[m]'(by omega)).l=(j:Int)→allB true kn (G.rs[m]'(by omega)).r=false):zbU G (hts G) j=(i:Int):=by
 have hH:=hgt_hi h
 have hp:Gn true G.rs (j:Int):=(zdi h (show 0<(hts G).getD j 0 by omega) (Nat.le_refl _)).gn
 obtain⟨m,e,hm,e1,ha,e2,hno⟩:=zcw h hp
 have hgd:∀z:Int,z<0→Der G.rs d (-1-z)→0<(hts G).getD (-1-z).toNat 0∧(hts G).getD (-1-z).toNat 0≤d:=fun z hz hd=>zdm h (by rw[Int.toNat_of_nonneg (by omega)];exact hd)
 have hdr:=(za6 hk G.rs[i].r).1 h2
 have hb:zaL (hts G) j G.rs[i]=true:=by
  have h4:zaZ (hts G) G.rs[i].r=topH (hts G) G.rs[i].r+1:=zcq fun z hz hn=>(hgd z hn (hdr z hz hn)).1
  have h5:topH (hts G) G.rs[i].r≤d:=topH_le.2 fun z hz hn=>(hgd z hn (hdr z hz hn)).2
  have h6:(hts G).getD G.rs[i].l.toNat 0≤topH (hts G) G.rs[i].r+1:=hH.le _ (List.getElem_mem hi) ⟨fun _ _ _=>rfl,fun z hz hn=>(hdr z hz hn).gn⟩
  rw[h1,Int.toNat_natCast]at h6
  unfold zaL
  rw[h1,h4,decide_eq_true (show 0<(hts G).getD j 0 by omega),Bool.and_true,Bool.and_eq_true,beq_iff_eq,beq_iff_eq]
  exact⟨rfl,by omega⟩
 rw[e]
 rcases Nat.lt_trichotomy m i with h4|h4|h4
 ·exfalso
  have h5:=h3 m h4 e1
  have h6:allB true kn G.rs[m].r=true:=(za6 hk _).2 fun z hz hn=>by
   have h7:=ha.2 z hz hn
   have h8:=zdm h (d:=G.ns.length) (j:=(-1-z).toNat) (by rw[Int.toNat_of_nonneg (by omega)];exact zbc h.lin h7)
   have h9:=topH_le.1 (Nat.le_refl (topH (hts G) G.rs[m].r)) z hz hn
   have h10:=zdi h h8.1 (show(hts G).getD (-1-z).toNat 0≤d by omega)
   rwa [Int.toNat_of_nonneg (by omega)]at h10
  rw[h6]at h5;cases h5
 ·rw[h4]
 ·have h5:=hno i h4
  rw[hb]at h5;cases h5
theorem Pls.next {G:Gr} (h:Ok G) {d:Nat} {kn pd:List Bool} {l m:List Pl} (x:Pls G d kn l) (y:Nx G.rs kn (d+1) G.rs.length pd m) (hm:m≠[]):Pls G (d+1) (setP kn m) (l++m):=by
 have hl:=h.lin
 have hnew:∀q∈m,q.n<G.ns.length∧Der G.rs (d+1) (q.n:Int)∧¬Der G.rs d (q.n:Int):=fun q hq=>by
  obtain⟨_,h1,h2,h3,h4,_⟩:=y.a q hq
  have h5:=hl _ (List.getElem_mem h2)
  refine⟨by omega,⟨_,List.getElem_mem h2,h3,(za6 x.k _).1 h4⟩,fun hd=>?_⟩
  rw[(x.k _).2 hd]at h1;cases h1
 have hdn:d+1≤G.ns.length:=by
  rcases m with _|⟨q,r⟩
  ·exact absurd rfl hm
  ·have h1:=hnew q (List.mem_cons_self ..)
   exact(zeQ h h1.2.1 h1.2.2).2
 have hme:∀j:Nat,(setP kn m).getD j false=true↔kn.getD j false=true ∨ ∃q∈m,q.n=j:=fun j=>by
  refine⟨zes m kn j,?_⟩
  rintro(h1|⟨q,hq,rfl⟩)
  ·exact(zc7 m kn).get _ h1
  ·exact zdw m kn (fun u hu=>by rw[x.n];exact(hnew u hu).1) q hq
 refine⟨by rw[setP_len,x.n],hdn,fun j=>?_,fun q hq=>?_,fun j hj=>?_,fun b hb j h1 h2=>?_,?_⟩
 ·rw[hme]
  constructor
  ·rintro(h1|⟨q,hq,rfl⟩)
   ·exact((x.k j).1 h1).more
   ·exact(hnew q hq).2.1
  ·rintro⟨z,hz,e1,h1⟩
   obtain⟨i,hi,rfl⟩:=List.getElem_of_mem hz
   have h2:=y.f i hi hi ((za6 x.k _).2 h1)
   rw[e1,Int.toNat_natCast]at h2
   exact y.e j h2
 ·rcases List.mem_append.1 hq with h1|h1
  ·obtain⟨a1,a2,a3,a4,a5⟩:=x.a q h1
   exact⟨a1,a2,a3,by omega,a5⟩
  ·obtain⟨a1,a2,a3⟩:=hnew q h1
   obtain⟨b1,b2,b3,b4,b5,b6⟩:=y.a q h1
   have h2:=(zeQ h a2 a3).1
   exact⟨a1,by rw[h2,b1],by omega,by omega,zea h x.k h2 b3 b4 b5 b6,b3⟩
 ·rcases(hme j).1 hj with h1|⟨q,hq,e1⟩
  ·obtain⟨q,hq,e1⟩:=x.e j h1
   exact⟨q,List.mem_append_left _ hq,e1⟩
  ·exact⟨q,List.mem_append_right _ hq,e1⟩
 ·rcases Nat.lt_or_ge b l.length with h3|h3
  ·rw[List.getElem_append_left h3]at h2
   obtain⟨c,hc,e1⟩:=x.o b h3 j h1 h2
   exact⟨c,hc,by rw[List.getElem_append_left (by omega)];exact e1⟩
  ·rw[List.getElem_append_right h3]at h2
   have hbm:b-l.length<m.length:=by rw[List.length_append]at hb;omega
   have h4:=(y.a m[b-l.length] (List.getElem_mem hbm)).1
   rw[h4]at h2
   obtain⟨q,hq,e1⟩:=x.e j ((x.k j).2 (zdi h h1 (by omega)))
   obtain⟨c,hc,rfl⟩:=List.getElem_of_mem hq
   exact⟨c,by omega,by rw[List.getElem_append_left hc];exact e1⟩
 ·rw[List.length_append]
  have h1:=x.len
  have h2:=y.len
  have h3:=h.r40
  omega
theorem Pls.last {G:Gr} (h:Ok G) {d:Nat} {kn pd:List Bool} {l:List Pl} (x:Pls G d kn l) (y:Nx G.rs kn (d+1) G.rs.length pd []) (j:Nat) (hj:Gn true G.rs (j:Int)):∃q∈l,q.n=j:=by
 have hl:=h.lin
 have h0:∀i:Int,Gn true G.rs i→Der G.rs d i:=by
  intro i hi
  induction hi with
  | mk z hz _ _ ih =>
   obtain⟨i,hi,rfl⟩:=List.getElem_of_mem hz
   have h1:=y.f i hi hi ((za6 x.k _).2 ih)
   have h2:=hl _ hz
   rcases y.e _ h1 with h3|⟨q,hq,_⟩
   ·have h4:=(x.k _).1 h3
    rwa [Int.toNat_of_nonneg h2.1]at h4
   ·cases hq
 exact x.e j ((x.k j).2 (h0 _ hj))
def zch (s t:Nat×Nat):Nat×Nat:=(min (s.1+t.1) 301,min (s.2+t.2) 61)
def szOf (S:List (Nat×Nat)) (z:Int):Nat×Nat:=if z<0 then S.getD (-1-z).toNat (0,0) else(0,1)
def szF (S:List (Nat×Nat)) (l:List Int):Nat×Nat:=l.foldl (fun s z=>zch s (szOf S z)) (0,0)
theorem szF_take {S:List (Nat×Nat)} {l:List Int} {k:Nat} (h:k<l.length):szF S (l.take (k+1))=zch (szF S (l.take k)) (szOf S l[k]):=by
 unfold szF
 rw[List.take_succ_eq_append_getElem h,List.foldl_append];rfl
def szC (G:Gr) (l:List Int):Nat×Nat:=(min (ltree G l).length 301,min (lword G l).length 61)
theorem zfg {G:Gr} (h:Ok G) {S:List (Nat×Nat)} {l:List Int} (hp:Pr G l) (hS:∀z∈l,z<0→S.getD (-1-z).toNat (0,0)=szC G [z]):∀k,k≤l.length→szF S (l.take k)=szC G (l.take k):=by
 intro k
 induction k with
 | zero =>
  intro _
  unfold szC
  rw[List.take_zero,ltree_nil G h,lword_nil G h];rfl
 | succ k ih =>
  intro hk
  have hlt:k<l.length:=by omega
  have hz:=List.getElem_mem hlt
  rw[szF_take hlt,ih (by omega)]
  have hp1:Pr G (l.take k):=fun z hz hn=>hp z (List.mem_of_mem_take hz) hn
  have hp2:Pr G [l[k]]:=fun z hz' hn=>by rw[List.mem_singleton]at hz';subst hz';exact hp _ hz hn
  have e:szOf S l[k]=szC G [l[k]]:=by
   unfold szOf
   by_cases h0:l[k]<0
   ·rw[if_pos h0];exact hS _ hz h0
   ·rw[if_neg h0]
    unfold szC
    rw[zaW h hp2,zaU h hp2,if_pos (by omega),if_pos (by omega),ltree_nil G h,lword_nil G h];rfl
  rw[e,List.take_succ_eq_append_getElem hlt]
  unfold szC zch
  rw[za4 h hp1 hp2,za3 h hp1 hp2,List.length_append,List.length_append]
  simp only[Prod.mk.injEq]
  omega
theorem zfV {G:Gr} (h:Ok G) {S:List (Nat×Nat)} {l:List Int} (hp:Pr G l) (hS:∀z∈l,z<0→S.getD (-1-z).toNat (0,0)=szC G [z]):szF S l=szC G l:=by
 have:=zfg h hp hS l.length (Nat.le_refl _)
 rwa [List.take_length]at this
theorem szF_le (S:List (Nat×Nat)) (l:List Int):(szF S l).1≤301∧(szF S l).2≤61:=by
 unfold szF
 rcases List.eq_nil_or_concat l with rfl|⟨a,b,rfl⟩
 ·simp
 ·rw[List.concat_eq_append,List.foldl_append]
  show(zch _ _).1≤301∧(zch _ _).2≤61
  unfold zch
  simp only[]
  omega
theorem zf9 {G:Gr} (h:Ok G) {z:Int} (hz:z<0) (hp:Gn true G.rs (-1-z)):szC G [z]=zch (1,0) (szC G (lrt G z)):=by
 have hp2:Pr G [z]:=fun y hy _=>by rw[List.mem_singleton]at hy;subst hy;exact hp
 unfold szC zch
 rw[zaW h hp2,zaU h hp2,if_neg (by omega),if_neg (by omega),ltree_nil G h,lword_nil G h,List.append_nil,List.append_nil,List.length_cons]
 simp only[Prod.mk.injEq]
 omega
theorem ltree_term {G:Gr} (h:Ok G) {z:Int} (hz:¬z<0):ltree G [z]=[]:=by
 rw[zaW h (fun y hy hn=>by rw[List.mem_singleton]at hy;subst hy;exact absurd hn hz),if_pos (by omega),ltree_nil G h];rfl
theorem lword_term {G:Gr} (h:Ok G) {z:Int} (hz:¬z<0):lword G [z]=[z]:=by
 rw[zaU h (fun y hy hn=>by rw[List.mem_singleton]at hy;subst hy;exact absurd hn hz),if_pos (by omega),lword_nil G h];rfl
theorem ltree_non {G:Gr} (h:Ok G) {z:Int} (hz:z<0) (hp:Gn true G.rs (-1-z)):ltree G [z]=lnm G z::ltree G (lrt G z):=by
 rw[zaW h (fun y hy _=>by rw[List.mem_singleton]at hy;subst hy;exact hp),if_neg (by omega),ltree_nil G h,List.append_nil]
theorem lword_non {G:Gr} (h:Ok G) {z:Int} (hz:z<0) (hp:Gn true G.rs (-1-z)):lword G [z]=lword G (lrt G z):=by
 rw[zaU h (fun y hy _=>by rw[List.mem_singleton]at hy;subst hy;exact hp),if_neg (by omega),lword_nil G h,List.append_nil]
theorem Pr.take {G:Gr} {l:List Int} (hp:Pr G l) (k:Nat):Pr G (l.take k):=fun z hz hn=>hp z (List.mem_of_mem_take hz) hn
theorem Pr.at {G:Gr} {l:List Int} (hp:Pr G l) {k:Nat} (hk:k<l.length):Pr G [l[k]]:=fun z hz hn=>by rw[List.mem_singleton]at hz;subst hz;exact hp _ (List.getElem_mem hk) hn
theorem ltree_take {G:Gr} (h:Ok G) {l:List Int} (hp:Pr G l) {k:Nat} (hk:k<l.length):ltree G (l.take (k+1))=ltree G (l.take k)++ltree G [l[k]]:=by
 rw[List.take_succ_eq_append_getElem hk,za4 h (hp.take k) (hp.at hk)]
theorem lword_take {G:Gr} (h:Ok G) {l:List Int} (hp:Pr G l) {k:Nat} (hk:k<l.length):lword G (l.take (k+1))=lword G (l.take k)++lword G [l[k]]:=by
 rw[List.take_succ_eq_append_getElem hk,za3 h (hp.take k) (hp.at hk)]
theorem ltree_len {G:Gr} (h:Ok G) {l:List Int} (hp:Pr G l) (k:Nat):(ltree G (l.take k)).length≤(ltree G l).length:=by
 have hd:Pr G (l.drop k):=fun z hz hn=>hp z (List.mem_of_mem_drop hz) hn
 have e:=za4 h (hp.take k) hd
 rw[List.take_append_drop]at e
 rw[e,List.length_append];omega
theorem lword_len {G:Gr} (h:Ok G) {l:List Int} (hp:Pr G l) (k:Nat):(lword G (l.take k)).length≤(lword G l).length:=by
 have hd:Pr G (l.drop k):=fun z hz hn=>hp z (List.mem_of_mem_drop hz) hn
 have e:=za3 h (hp.take k) hd
 rw[List.take_append_drop]at e
 rw[e,List.length_append];omega
theorem best_len {G:Gr}:(best G (hts G)).length=G.ns.length:=by unfold best;simp
theorem best_i {G:Gr} (h:Ok G) {j:Nat} (hp:Gn true G.rs (j:Int)):∃i,∃hi:i<G.rs.length,(best G (hts G)).getD j 0=(i:Int)∧lnm G (-1-(j:Int))=i∧lrt G (-1-(j:Int))=G.rs[i].r∧j<G.ns.length:=by
 have hj:=hp.lin h.lin
 have hj2:j<G.ns.length:=by omega
 obtain⟨i,e,hi,_⟩:=zcw h hp
 refine⟨i,hi,?_,?_,?_,hj2⟩
 ·have h1:=zbd (G:=G) hj2
  rw[List.getD_eq_getElem?_getD,List.getElem?_eq_getElem (by rw[best_len];exact hj2)]at h1 ⊢
  simp only[Option.getD_some]at h1 ⊢
  rw[h1,e]
 ·unfold lnm
  rw[show(-1-(-1-(j:Int))).toNat=j by omega,zbd hj2,e,Int.toNat_natCast]
 ·unfold lrt zhl
  rw[show(-1-(-1-(j:Int))).toNat=j by omega,zbd hj2,e,Int.toNat_natCast,List.getD_eq_getElem?_getD,List.getElem?_eq_getElem hi];rfl
theorem top_lt {G:Gr} (h:Ok G) {z:Int} (hz:z<0) (hp:Gn true G.rs (-1-z)) {f:Nat} (hf:(hts G).getD (-1-z).toNat 0≤f+1):topH (hts G) (lrt G z)≤f:=by
 have:=(lrt_of h hz hp).2.1
 omega
theorem hts_pos {G:Gr} (h:Ok G) {j:Nat} (hp:Gn true G.rs (j:Int)):0<(hts G).getD j 0:=by
 have hj:=hp.lin h.lin
 exact((hgt_hi h).p j (by omega)).2 hp
noncomputable def szN (G:Gr) (j:Nat):Nat×Nat:=@ite _ (Gn true G.rs (j:Int)) (Classical.propDecidable _) (szC G [-1-(j:Int)]) (0,0)
def dn (l:List Pl) (k j:Nat):Prop:=∃c,∃hc:c<l.length,c<k∧l[c].n=j
structure Kn (G:Gr) (l:List Pl) (k:Nat) (H L:List Int) (S:List (Nat×Nat)):Prop where
 lh:H.length=G.ns.length
 ll:L.length=G.ns.length
 ls:S.length=G.ns.length
 y:∀j,dn l k j→H.getD j 0=((hts G).getD j 0:Nat)∧L.getD j (-1)=zbU G (hts G) j∧S.getD j (0,0)=szN G j
 n:∀j,¬dn l k j→H.getD j 0=0∧L.getD j (-1) = -1∧S.getD j (0,0)=(0,0)
theorem Kn.zero (G:Gr) (l:List Pl):Kn G l 0 (List.replicate G.ns.length 0) (List.replicate G.ns.length (-1)) (List.replicate G.ns.length (0,0)):=by
 refine⟨by simp,by simp,by simp,fun j hj=>?_,fun j _=>⟨?_,?_,?_⟩⟩
 ·obtain⟨c,_,h,_⟩:=hj;omega
 all_goals
  rw[List.getD_eq_getElem?_getD,List.getElem?_replicate]
  split <;> rfl
theorem gD_set {α:Type} (s:List α) (i j:Nat) (v u:α) (hi:i<s.length):(s.set i v).getD j u=if i=j then v else s.getD j u:=by
 rw[List.getD_eq_getElem?_getD,List.getD_eq_getElem?_getD,List.getElem?_set]
 by_cases e:i=j
 ·subst e;rw[if_pos rfl,if_pos rfl,if_pos hi];rfl
 ·rw[if_neg e,if_neg e]
theorem Kn.next {G:Gr} {l:List Pl} {k:Nat} {H L:List Int} {S:List (Nat×Nat)} (x:Kn G l k H L S) (hk:k<l.length) (hn:l[k].n<G.ns.length) {h i:Int} {s:Nat×Nat} (h1:h=((hts G).getD l[k].n 0:Nat)) (h2:i=zbU G (hts G) l[k].n) (h3:s=szN G l[k].n):Kn G l (k+1) (H.set l[k].n h) (L.set l[k].n i) (S.set l[k].n s):=by
 refine⟨by rw[List.length_set,x.lh],by rw[List.length_set,x.ll],by rw[List.length_set,x.ls],fun j hj=>?_,fun j hj=>?_⟩
 ·rw[gD_set _ _ _ _ _ (by rw[x.lh];exact hn),gD_set _ _ _ _ _ (by rw[x.ll];exact hn),gD_set _ _ _ _ _ (by rw[x.ls];exact hn)]
  by_cases e:l[k].n=j
  ·subst e
   rw[if_pos rfl,if_pos rfl,if_pos rfl]
   exact⟨h1,h2,h3⟩
  ·rw[if_neg e,if_neg e,if_neg e]
   refine x.y j ?_
   obtain⟨c,hc,h4,h5⟩:=hj
   refine⟨c,hc,?_,h5⟩
   rcases Nat.lt_or_ge c k with h6|h6
   ·exact h6
   ·obtain rfl:c=k:=by omega
    exact absurd h5 e
 ·have e:l[k].n≠j:=fun e=>hj ⟨k,hk,by omega,e⟩
  rw[gD_set _ _ _ _ _ (by rw[x.lh];exact hn),gD_set _ _ _ _ _ (by rw[x.ll];exact hn),gD_set _ _ _ _ _ (by rw[x.ls];exact hn),if_neg e,if_neg e,if_neg e]
  exact x.n j fun⟨c,hc,h4,h5⟩=>hj ⟨c,hc,by omega,h5⟩
theorem szN_le (G:Gr) (j:Nat):(szN G j).1≤301∧(szN G j).2≤61:=by
 unfold szN
 split
 ·unfold szC;simp only[];omega
 ·simp
theorem Kn.le {G:Gr} {l:List Pl} {k:Nat} {H L:List Int} {S:List (Nat×Nat)} (x:Kn G l k H L S) (j:Nat):(S.getD j (0,0)).1≤1000∧(S.getD j (0,0)).2≤1000:=by
 by_cases h:dn l k j
 ·rw[(x.y j h).2.2]
  have:=szN_le G j
  omega
 ·rw[(x.n j h).2.2];simp
def htI (G:Gr):List Int:=(hts G).map Int.ofNat
noncomputable def szL (G:Gr):List (Nat×Nat):=(List.range G.ns.length).map (szN G)
theorem zgn {G:Gr}:(hts G).length=G.ns.length:=by unfold hts;rw[zdj];simp
theorem htI_len {G:Gr}:(htI G).length=G.ns.length:=by unfold htI;rw[List.length_map,zgn]
theorem szL_len {G:Gr}:(szL G).length=G.ns.length:=by unfold szL;simp
theorem htI_at {G:Gr} (j:Nat):(htI G).getD j 0=((hts G).getD j 0:Nat):=by
 unfold htI
 rw[List.getD_eq_getElem?_getD,List.getD_eq_getElem?_getD,List.getElem?_map]
 cases (hts G)[j]? <;> rfl
theorem szL_at {G:Gr} {j:Nat} (hj:j<G.ns.length):(szL G).getD j (0,0)=szN G j:=by
 unfold szL
 rw[List.getD_eq_getElem?_getD,List.getElem?_map,List.getElem?_range hj];rfl
theorem zeU {α:Type} {a b:List α} {u:α} (hl:a.length=b.length) (h:∀j,j<a.length→a.getD j u=b.getD j u):a=b:=by
 refine List.ext_getElem hl fun j h1 h2=>?_
 have h3:=h j h1
 simpa[List.getD_eq_getElem?_getD,h1,h2] using h3
theorem zf1 {G:Gr} (h:Ok G) {j:Nat} (hj:j<G.ns.length) (hp:¬Gn true G.rs (j:Int)):(hts G).getD j 0=0:=by
 rcases Nat.eq_zero_or_pos ((hts G).getD j 0) with h1|h1
 ·exact h1
 ·exact absurd (((hgt_hi h).p j hj).1 h1) hp
theorem Kn.all {G:Gr} (h:Ok G) {l:List Pl} {d:Nat} {kn:List Bool} (y:Pls G d kn l) (hlast:∀j:Nat,Gn true G.rs (j:Int)→∃q∈l,q.n=j) {H L:List Int} {S:List (Nat×Nat)} (x:Kn G l l.length H L S):H=htI G∧L=best G (hts G)∧S=szL G:=by
 have hd:∀j:Nat,Gn true G.rs (j:Int)→dn l l.length j:=fun j hj=>by
  obtain⟨q,hq,e⟩:=hlast j hj
  obtain⟨c,hc,rfl⟩:=List.getElem_of_mem hq
  exact⟨c,hc,hc,e⟩
 have hn:∀j:Nat,¬Gn true G.rs (j:Int)→¬dn l l.length j:=fun j hj ⟨c,hc,_,e⟩=>hj (by
  obtain⟨a1,a2,a3,_⟩:=y.a _ (List.getElem_mem hc)
  rw[←e]
  exact((hgt_hi h).p _ a1).1 (by rw[show hiN G.rs G.ns.length (List.replicate G.ns.length 0)=hts G from rfl,a2];exact a3))
 refine⟨zeU (u:=0) (by rw[x.lh,htI_len]) fun j hj=>?_,zeU (u:=-1) (by rw[x.ll,best_len]) fun j hj=>?_,zeU (u:=(0,0)) (by rw[x.ls,szL_len]) fun j hj=>?_⟩
 ·rw[x.lh]at hj
  rw[htI_at]
  by_cases hp:Gn true G.rs (j:Int)
  ·exact(x.y j (hd j hp)).1
  ·rw[(x.n j (hn j hp)).1,zf1 h hj hp];rfl
 ·rw[x.ll]at hj
  rw[zbd hj]
  by_cases hp:Gn true G.rs (j:Int)
  ·exact(x.y j (hd j hp)).2.1
  ·rw[(x.n j (hn j hp)).2.1,ze3 h hj hp]
 ·rw[x.ls]at hj
  rw[szL_at hj]
  by_cases hp:Gn true G.rs (j:Int)
  ·exact(x.y j (hd j hp)).2.2
  ·rw[(x.n j (hn j hp)).2.2,szN,if_neg hp]
theorem Kn.ready {G:Gr} (h:Ok G) {l:List Pl} {d:Nat} {kn:List Bool} (y:Pls G d kn l) {k:Nat} (hk:k<l.length) {H L:List Int} {S:List (Nat×Nat)} (x:Kn G l k H L S):∃hi:l[k].i<G.rs.length,G.rs[l[k].i].r=lrt G (-1-(l[k].n:Int))∧G.rs[l[k].i].l=(l[k].n:Int)∧zch (1,0) (szF S G.rs[l[k].i].r)=szN G l[k].n∧∀z∈G.rs[l[k].i].r,z<0→-1-z<(G.ns.length:Int):=by
 obtain⟨a1,a2,a3,a4,a5,a6⟩:=y.a _ (List.getElem_mem hk)
 have hp:Gn true G.rs (l[k].n:Int):=((hgt_hi h).p _ a1).1 (by rw[show hiN G.rs G.ns.length (List.replicate G.ns.length 0)=hts G from rfl,a2];exact a3)
 obtain⟨i,e,hi,e1,ha,e2,_⟩:=zcw h hp
 have ei:l[k].i=i:=by rw[a5]at e;omega
 have er:G.rs[l[k].i].r=lrt G (-1-(l[k].n:Int)):=by
  unfold lrt zhl
  rw[show(-1-(-1-(l[k].n:Int))).toNat=l[k].n by omega,zbd a1,a5,Int.toNat_natCast,List.getD_eq_getElem?_getD,List.getElem?_eq_getElem a6];rfl
 have hsub:∀(a b:Nat) (h1:a<G.rs.length) (h2:b<G.rs.length),a=b→G.rs[a]=G.rs[b]:=fun a b h1 h2 e=>by subst e;rfl
 have ers:G.rs[l[k].i]=G.rs[i]:=hsub _ _ a6 hi ei
 refine⟨a6,er,by rw[ers,e1],?_,fun z hz hn=>?_⟩
 ·have hp2:Pr G G.rs[l[k].i].r:=fun z hz hn=>ha.2 z (by rw[←ers];exact hz) hn
  rw[zfV h hp2 fun z hz hn=>?_]
  ·unfold szN
   rw[if_pos hp,zf9 h (by omega) (by rw[show -1-(-1-(l[k].n:Int))=l[k].n by omega];exact hp),←er]
  ·have h1:=hp2 z hz hn
   have h2:=h1.lin h.lin
   have h3:=zdm h (d:=G.ns.length) (j:=(-1-z).toNat) (by rw[Int.toNat_of_nonneg (by omega)];exact zbc h.lin h1)
   have h4:=topH_le.1 (Nat.le_refl (topH (hts G) G.rs[l[k].i].r)) z hz hn
   obtain⟨c,hc,e3⟩:=y.o k hk (-1-z).toNat h3.1 (by rw[←a2,e2,←ers];omega)
   rw[(x.y _ ⟨c,by omega,hc,e3⟩).2.2,szN,if_pos (by rw[Int.toNat_of_nonneg (by omega)];exact h1),Int.toNat_of_nonneg (by omega),show -1-(-1-z)=z by omega]
 ·exact((ha.2 z (by rw[←ers];exact hz) hn).lin h.lin).2
theorem szL_of {G:Gr} (h:Ok G) {l:List Int} (hp:Pr G l):szF (szL G) l=szC G l:=zfV h hp fun z hz hn=>by
 have h1:=hp z hz hn
 have h2:=h1.lin h.lin
 rw[szL_at (by omega),szN,if_pos (by rw[Int.toNat_of_nonneg (by omega)];exact h1),Int.toNat_of_nonneg (by omega),show -1-(-1-z)=z by omega]
noncomputable def trE (G:Gr) (n:Int):Int:=if right G=true∧0≤n∧n<(G.ns.length:Int) then(if tr (Gn true G.rs n)=true then(if(ltree G [-1-n]).length≤300 then 0 else 13) else 9) else 1
noncomputable def trL (G:Gr) (n:Int):List Int:=if trE G n=0 then(ltree G [-1-n]).map Int.ofNat else []
noncomputable def wdE (G:Gr) (l:List Int):Int:=if right G=true∧l.all (has G)=true then(if tr (Pr G l)=true then(if(ltree G l).length≤300∧(lword G l).length≤60 then 0 else 13) else 9) else 1
noncomputable def wdL (G:Gr) (l:List Int):List Int:=if wdE G l=0 then lword G l else []
theorem trL_no {G:Gr} {n:Int} (h:trE G n≠0):trL G n=[]:=if_neg h
theorem wdL_no {G:Gr} {l:List Int} (h:wdE G l≠0):wdL G l=[]:=if_neg h
theorem trE_arg {G:Gr} {n:Int} (h:¬(right G=true∧0≤n∧n<(G.ns.length:Int))):trE G n=1:=if_neg h
theorem wdE_arg {G:Gr} {l:List Int} (h:¬(right G=true∧l.all (has G)=true)):wdE G l=1:=if_neg h
theorem hts_zero {G:Gr} (h:Ok G) {j:Nat} (hj:j<G.ns.length):(hts G).getD j 0=0 ↔ ¬Gn true G.rs (j:Int):=by
 constructor
 ·intro h0 hp
  have:=hts_pos h hp
  omega
 ·exact zf1 h hj
theorem szC_le {G:Gr} {l:List Int}:(szC G l).1≤300↔(ltree G l).length≤300:=by unfold szC;simp only[];omega
theorem szC_le2 {G:Gr} {l:List Int}:(szC G l).2≤60↔(lword G l).length≤60:=by unfold szC;simp only[];omega
end Gm
end Go.Proofs.Ytcgclkndkahgaaa
namespace Go.Proofs.Ytcgclkndkahgaaa
set_option maxRecDepth 100000
set_option maxHeartbeats 40000000
open Go.RowKit
def zaR (L:List Int):Option Tok→List Value
 | none=>[.string ⟨#[]⟩,.complex .f64 0 0]
 | some t=>aM L t
def aL (L:List Int) (p:Y.Prd) (A:Option Addr) (c:Nat):List Value:=aM L p.l++[.slice A p.r.length c]++zaR L p.p
def zaJ (d:Y.Dcl) (A:Option Addr) (c:Nat):List Value:=[.int .i64 d.k,.slice A d.ns.length c]
abbrev PA:=Y.Prd×Option Addr×Nat
abbrev DA:=Y.Dcl×Option Addr×Nat
def zfw (L:List Int) (qs:List PA):List Value:=qs.flatMap fun q=>aL L q.1 q.2.1 q.2.2
def zhd (qs:List DA):List Value:=qs.flatMap fun q=>zaJ q.1 q.2.1 q.2.2
theorem zb3 (L:List Int) (p:Y.Prd) (A:Option Addr) (c:Nat):(aL L p A c).length=5:=by
 unfold aL zaR
 split <;> rfl
theorem zgg (L:List Int) (qs:List PA) (i j:Nat) (hi:i<qs.length) (hj:j<5):(zfw L qs)[i*5+j]?=(aL L qs[i].1 qs[i].2.1 qs[i].2.2)[j]?:=by
 unfold zfw
 induction qs generalizing i with
 | nil=>simp at hi
 | cons x r ih =>
  rw[List.flatMap_cons]
  have hl:=zb3 L x.1 x.2.1 x.2.2
  cases i with
  | zero=>rw[List.getElem?_append_left (by omega)];simp
  | succ i =>
   rw[List.getElem?_append_right (by omega),hl,show(i+1)*5+j-5=i*5+j by omega]
   simpa using ih i (by simpa using hi)
theorem zeZ (qs:List DA) (i j:Nat) (hi:i<qs.length) (hj:j<2):(zhd qs)[i*2+j]?=(zaJ qs[i].1 qs[i].2.1 qs[i].2.2)[j]?:=by
 unfold zhd
 induction qs generalizing i with
 | nil=>simp at hi
 | cons x r ih =>
  rw[List.flatMap_cons]
  have hl:(zaJ x.1 x.2.1 x.2.2).length=2:=rfl
  cases i with
  | zero=>rw[List.getElem?_append_left (by omega)];simp
  | succ i =>
   rw[List.getElem?_append_right (by omega),hl,show(i+1)*2+j-2=i*2+j by omega]
   simpa using ih i (by simpa using hi)
def aT (L:List Int) (w:World) (base:Nat) (v:Value) (ps:List Y.Prd):Prop :=
 ∃qs:List PA,qs.map (·.1)=ps∧w.ownsRow base 85 5 v ps.length (zfw L qs)∧∀q∈qs,RdR L w base q.2.1 q.1.r
def aU (L:List Int) (w:World) (base:Nat) (v:Value) (ds:List Y.Dcl):Prop :=
 ∃qs:List DA,qs.map (·.1)=ds∧w.ownsRow base 115 2 v ds.length (zhd qs)∧∀q∈qs,RdR L w base q.2.1 q.1.ns
theorem aT.nil (L:List Int) (w:World) (base:Nat):aT L w base (.slice none 0 0) []:=⟨[],rfl,World.ownsRow_nil w base _ _,fun q h=>by cases h⟩
theorem aU.nil (L:List Int) (w:World) (base:Nat):aU L w base (.slice none 0 0) []:=⟨[],rfl,World.ownsRow_nil w base _ _,fun q h=>by cases h⟩
def zf6 (w:World) (v:Value) (row:Option Nat):Prop:=aO w row∧(v.ownBlock=none∨v.ownBlock≠row)
theorem zf6.none (w:World) (v:Value):zf6 w v .none:=⟨aO.none w,by rcases v.ownBlock with _|k;exact .inl rfl;exact .inr (by simp)⟩
theorem aT.grown {L:List Int} {w w':World} {base:Nat} {v:Value} {ps:List Y.Prd} {row:Option Nat} (h:aT L w base v ps) (hg:w.grownBy w' row) (ha:zf6 w v row):aT L w' base v ps:=by
 obtain⟨qs,h1,h2,h3⟩:=h
 exact⟨qs,h1,h2.kept hg ha.2,fun q hq=>(h3 q hq).grown hg ha.1⟩
theorem aU.grown {L:List Int} {w w':World} {base:Nat} {v:Value} {ds:List Y.Dcl} {row:Option Nat} (h:aU L w base v ds) (hg:w.grownBy w' row) (ha:zf6 w v row):aU L w' base v ds:=by
 obtain⟨qs,h1,h2,h3⟩:=h
 exact⟨qs,h1,h2.kept hg ha.2,fun q hq=>(h3 q hq).grown hg ha.1⟩
theorem zaq {w:World} {base:Nat} {v:Value} {n:Nat} {size:Nat} {e:TypeId} {xs:List Value} (h:w.ownsRow base e size v n xs) (he:e≠77):aO w v.ownBlock:=by
 intro k hk cur hc
 rcases h.2 with⟨rfl,_⟩|⟨g,cap,cur',rfl,_,hg,_⟩
 ·cases hk
 ·injection hk with hk
  subst hk
  have hg':w.heap[g]?=some (.cells cur 77 (0,0)):=hc
  rw[hg]at hg'
  injection hg' with e1
  injection e1 with _ e2
  exact he e2
theorem aT.form {L:List Int} {w:World} {base:Nat} {v:Value} {ps:List Y.Prd} (h:aT L w base v ps):∃A c,v=.slice A ps.length c∧ps.length≤c∧c≤maxLen:=by
 obtain⟨qs,h1,h2,h3⟩:=h
 rcases h2.2 with⟨rfl,h0⟩|⟨g,cap,cur,rfl,hb,hg,hn,hm,hs,ht⟩
 ·exact⟨none,0,by rw[h0],by omega,by unfold maxLen;omega⟩
 ·exact⟨_,cap,rfl,hn,hm⟩
theorem aU.form {L:List Int} {w:World} {base:Nat} {v:Value} {ds:List Y.Dcl} (h:aU L w base v ds):∃A c,v=.slice A ds.length c∧ds.length≤c∧c≤maxLen:=by
 obtain⟨qs,h1,h2,h3⟩:=h
 rcases h2.2 with⟨rfl,h0⟩|⟨g,cap,cur,rfl,hb,hg,hn,hm,hs,ht⟩
 ·exact⟨none,0,by rw[h0],by omega,by unfold maxLen;omega⟩
 ·exact⟨_,cap,rfl,hn,hm⟩
theorem zgV:(Try.prog.info? 85).map (fun i=>(i.zero,i.size,i.bytes))=some (some (.agg #[.string ⟨#[]⟩,.complex .f64 0 0,.slice none 0 0,.string ⟨#[]⟩,.complex .f64 0 0]),5,88):=by kernel_rfl
theorem zhx:(Try.prog.info? 115).map (fun i=>(i.zero,i.size,i.bytes))=some (some (.agg #[.int .i64 0,.slice none 0 0]),2,32):=by kernel_rfl
theorem zb2 (L:List Int) (p:Y.Prd) (A:Option Addr) (c:Nat):∀u∈aL L p A c,u.oneCell'=true:=by
 intro u hu
 unfold aL zaR at hu
 split at hu <;> simp[aM]at hu <;> rcases hu with rfl|rfl|rfl|rfl|rfl <;> rfl
theorem zcz {w:World} {ops:Array Oper} {rest:List Oper} {o:Oper} {a:Act} {Q:Exit→Act→World→Prop}
  (hgd:o.guard=none) (s x:Operand) (t:TypeId) (ho:o.op=.call {callee:=.builtin .append,args:=#[s,x],argTypes:=#[t,t]}) (ht:Try.prog.underlying t=some (.slice 85))
  (L:List Int) (base:Nat) (v:Value) (ps:List Y.Prd) (hs:a.eval s=v) (hown:aT L w base v ps) (g c:Nat) (p:Y.Prd) (A:Option Addr) (pc:Nat) (hx:a.eval x=.slice (some ⟨g,0,none⟩) 1 c) (hz:∀j u,(aL L p A pc)[j]?=some u→w.cell? ⟨g,j,none⟩=some u) (hr:RdR L w base A p.r)
  (hlen:ps.length≤1000000) (hbase:base≤w.heap.size)
  (hK:∀v' w',aT L w' base v' (ps++[p])→w.grownBy w' v.ownBlock→wpList Try.prog ops Q rest (a.put o.dst v') w') :
  wpList Try.prog ops Q (o::rest) a w:=by
 obtain⟨i,hi,hz0,hz1,hz2⟩:=info_parts zgV
 obtain⟨qs,hq1,hq2,hq3⟩:=hown
 have hlq:qs.length=ps.length:=by rw[←hq1,List.length_map]
 refine wpList_append_own w hgd s x t ho base 85 i _ 5 88 ht hi hz0 hz1 hz2 rfl (by decide) v ps.length (zfw L qs) hs hq2 ⟨g,0,none⟩ 1 c (aL L p A pc) hx (by rw[zb3]) ?_ (zb2 L p A pc) (by unfold maxLen;omega) (by omega) hbase fun v' w' h1 h2 _=>hK v' w' ?_ h2
 ·intro j u hj
  rw[zdr,Nat.zero_add]
  exact hz j u hj
 ·have ho:=zaq hq2 (by decide)
  refine⟨qs++[(p,A,pc)],by rw[List.map_append,hq1];rfl,?_,fun q hq=>?_⟩
  ·rw[List.length_append]
   unfold zfw
   rw[List.flatMap_append,List.flatMap_singleton]
   exact h1
  ·rcases List.mem_append.1 hq with h|h
   ·exact(hq3 q h).grown h2 ho
   ·rw[List.mem_singleton]at h
    subst h
    exact hr.grown h2 ho
theorem aG (w:World) (row:Option Nat):w.grownBy w.drew row:=⟨rfl,rfl,rfl,Nat.le_refl _,fun _ _ _=>rfl⟩
theorem zad {w w2:World} {g R:Nat} {o:Obj} (h:w.grownBy w2 (some R)) (ho:w.heap[g]?=some o) (hne:g≠R):w2.heap[g]?=some o:=by
 rw[h.block g (Array.getElem?_eq_some_iff.1 ho).1 (fun e=>by injection e with e;omega)];exact ho
theorem zbq {w:World} {g:Nat} {cs:Array Value} {t:TypeId} (h:w.heap[g]?=some (.cells cs t (0,0))) (ht:t≠77):aO w (some g):=by
 intro k hk cur hc
 injection hk with hk
 subst hk
 rw[h]at hc
 injection hc with hc
 injection hc with _ hc
 exact ht hc
theorem zbh (L:List Int) (p:Option Tok):∃x3 x4,zaR L p=[x3,x4]:=by cases p <;> exact⟨_,_,rfl⟩
theorem zeB {w w':World} {g:Nat} {cs:Array Value} {row:Option Nat} (h:w.heap[g]?=some (.cells cs 77 (0,0))) (hg:w.grownBy w' row) (ho:aO w row):w'.heap[g]?=some (.cells cs 77 (0,0)) :=
 (hg.block g (Array.getElem?_eq_some_iff.1 h).1 (fun e=>ho g e.symm cs h)).trans h
theorem aT.own {L:List Int} {w:World} {base:Nat} {v:Value} {ps:List Y.Prd} (h:aT L w base v ps):∃xs,w.ownsRow base 85 5 v ps.length xs:=by
 obtain⟨qs,_,h2,_⟩:=h;exact⟨_,h2⟩
theorem aU.own {L:List Int} {w:World} {base:Nat} {v:Value} {ds:List Y.Dcl} (h:aU L w base v ds):∃xs,w.ownsRow base 115 2 v ds.length xs:=by
 obtain⟨qs,_,h2,_⟩:=h;exact⟨_,h2⟩
theorem aT.other {L:List Int} {w:World} {base:Nat} {v:Value} {ps:List Y.Prd} (h:aT L w base v ps):aO w v.ownBlock:=by
 obtain⟨xs,h2⟩:=h.own;exact zaq h2 (by decide)
theorem aU.other {L:List Int} {w:World} {base:Nat} {v:Value} {ds:List Y.Dcl} (h:aU L w base v ds):aO w v.ownBlock:=by
 obtain⟨xs,h2⟩:=h.own;exact zaq h2 (by decide)
theorem zdL (p:Tok→Bool):∀ts:List Tok,(ts.dropWhile p).length≤ts.length
 | []=>Nat.le_refl _
 | t::r=>by
  have:=zdL p r
  rw[List.dropWhile_cons]
  split
  ·simp;omega
  ·exact Nat.le_refl _
theorem zfm {left:Tok} {ts r:List Tok} {p:Y.Prd} (h:Y.rule left ts=.ok p r):r.length≤ts.length:=by
 unfold Y.rule Y.rule2 at h
 have hd:=zdL Y.isRef ts
 split at h
 ·obtain⟨t,m,h1,h2⟩:=Y.bind_eq_ok h
  obtain⟨u,m2,h3,h4⟩:=Y.bind_eq_ok h2
  injection h4 with _ h5
  subst h5
  have e1:=congrArg List.length (Y.take_ok h1).1
  have e2:=congrArg List.length (Y.take_ok h3).1
  simp at e1 e2
  omega
 ·injection h with _ h5
  subst h5
  exact hd
theorem zgI {w:World} {g:Nat} {t:TypeId} {a0 a1 a2 a3 a4:Value} (h:w.heap[g]?=some (.cells #[a0,a1,a2,a3,a4] t (0,0))) (b0 b1 b2 b3 b4:Value) :
  (((((w.setCell ⟨g,0,none⟩ b0).setCell ⟨g,1,none⟩ b1).setCell ⟨g,2,none⟩ b2).setCell ⟨g,3,none⟩ b3).setCell ⟨g,4,none⟩ b4).heap[g]?=some (.cells #[b0,b1,b2,b3,b4] t (0,0)):=by
 have h0:=heap_setCell_same w g 0 _ _ b0 h
 have h1:=heap_setCell_same _ g 1 _ _ b1 h0
 have h2:=heap_setCell_same _ g 2 _ _ b2 h1
 have h3:=heap_setCell_same _ g 3 _ _ b3 h2
 have h4:=heap_setCell_same _ g 4 _ _ b4 h3
 exact h4
theorem zav (w:World) (p:Addr) (u:Value):(w.setCell p u).heap.size=w.heap.size:=by simp[World.setCell]
def Rd8 (L:List Int) (B R px py:Nat) (w:World) (ts:List Tok):Prop :=
 ∃A c,w.heap[R]?=some (.cells #[.slice A ts.length c,.complex .f64 px py,.complex .f64 0 0,.int .i64 0] 109 (0,0))∧ts.length≤c∧ts.length≤4000∧RdT L w B A ts∧B≤R
theorem Rd8.lt {L:List Int} {B R px py:Nat} {w:World} {ts:List Tok} (h:Rd8 L B R px py w ts):R<w.heap.size:=by
 obtain⟨A,c,hh,_⟩:=h
 exact(Array.getElem?_eq_some_iff.1 hh).1
theorem Rd8.other {L:List Int} {B R px py:Nat} {w:World} {ts:List Tok} (h:Rd8 L B R px py w ts):aO w (some R):=by
 obtain⟨A,c,hh,_⟩:=h
 intro k hk cur he
 injection hk with hk
 subst hk
 rw[hh]at he
 injection he with he
 injection he with _ he
 cases he
theorem Rd8.grown {L:List Int} {B R px py:Nat} {w w':World} {ts:List Tok} {row:Option Nat} (h:Rd8 L B R px py w ts) (hg:w.grownBy w' row) (hr:∀k,row=some k→R<k):Rd8 L B R px py w' ts:=by
 have hlt:=h.lt
 obtain⟨A,c,hh,h1,h2,h3,h4⟩:=h
 exact⟨A,c,(hg.block R hlt (fun e=>by have:=hr R e.symm;omega)).trans hh,h1,h2,h3.grown hg (fun k e=>by have:=hr k e;omega) (by omega),h4⟩
theorem Rd8.alloc {L:List Int} {B R px py:Nat} {w:World} {ts:List Tok} (h:Rd8 L B R px py w ts) (o:Obj):Rd8 L B R px py (w.alloc o) ts :=
 h.grown (row:=.none) (aC (World.grownBy.refl _ _) o) (fun _ e=>by cases e)
theorem Rd8.own {L:List Int} {B R px py base:Nat} {w w':World} {ts:List Tok} {e:TypeId} {size n:Nat} {v:Value} {xs:List Value} (h:Rd8 L B R px py w ts) (ho:w.ownsRow base e size v n xs) (hg:w.grownBy w' v.ownBlock) (hb:R<base):Rd8 L B R px py w' ts :=
 h.grown hg (fun k e=>by have:=(World.ownsRow.lt ho k e).1;omega)
theorem Rd8.far {L:List Int} {B R px py:Nat} {w:World} {ts:List Tok} (h:Rd8 L B R px py w ts) (g i:Nat) (u:Value) (hg:R<g):Rd8 L B R px py (w.setCell ⟨g,i,none⟩ u) ts :=
 h.grown (aD (World.grownBy.refl w (some g)) i u) (fun k e=>by injection e with e;omega)
theorem Rd8.cell0 {L:List Int} {B R px py:Nat} {w:World} {ts:List Tok} (h:Rd8 L B R px py w ts):∃A c,w.cell? ⟨R,0,none⟩=some (.slice A ts.length c)∧w.cell? ⟨R,3,none⟩=some (.int .i64 0)∧w.frozen? ⟨R,0,none⟩=false∧ts.length≤c∧RdT L w B A ts ∧
  ∀A' c' ts',ts'.length≤c'→ts'.length≤4000→RdT L w B A' ts'→Rd8 L B R px py (w.setCell ⟨R,0,none⟩ (.slice A' ts'.length c')) ts':=by
 obtain⟨A,c,hh,h1,h2,h3,h4⟩:=h
 refine⟨A,c,by rw[cell_of_row w R 0 _ _ _ hh];rfl,by rw[cell_of_row w R 3 _ _ _ hh];rfl,frozen_of_row w R 0 _ _ hh,h1,h3,fun A' c' ts' k1 k2 k3=>⟨A',c',?_,k1,k2,?_,h4⟩⟩
 ·rw[heap_setCell_same w R 0 _ _ _ hh];rfl
 ·exact k3.keep fun g o hg=>World.cell?_of_block (Below.heap_setCell w ⟨R,0,none⟩ _ g (by simp only;omega))
def kd:List Tok→Int
 | []=>0
 | t::_=>t.k
theorem zgm (L:List Int) (B R px py:Nat) (ts:List Tok) (w:World) (hr:Rd8 L B R px py w ts) :
  Calls Try.prog 53 #[.pointer (some ⟨R,0,none⟩)] w fun e w'=>e=.returned (.int .i64 (kd ts))∧w=w':=by
 obtain⟨A,c,h0,h3,_,hc,ht,_⟩:=hr.cell0
 rcases ts with _|⟨t,r⟩
 ·clear hr ht
  go_enter Try.func53,Try.ntmps53
  go_wp2
  go_ret
  exact⟨rfl,rfl⟩
 ·obtain⟨g,o,rfl,_,hcl⟩:=ht (by simp)
  have hcell:w.cell? ⟨g,o,none⟩=some (.int .i64 t.k):=hcl 0 0 _ (by simp) rfl
  have hl:0<((t::r).length:Int):=by simp
  have hl0:(((t::r).length:Int)==0)=false:=by simp;omega
  have HK:Hid (kd (t::r)=t.k):=aA rfl
  rw[HK.out]
  clear hr ht hcl
  generalize (t::r).length=n at *
  generalize t.k=z at *
  go_enter Try.func53,Try.ntmps53
  go_wp2
  go_ret
  exact⟨rfl,rfl⟩
theorem is8 (L:List Int) (B R px py:Nat) (ts:List Tok) (a b:Int) (w:World) (hr:Rd8 L B R px py w ts) :
  Calls Try.prog 80 #[.pointer (some ⟨R,0,none⟩),.int .i64 a,.int .i64 b] w fun e w'=>e=.returned (.bool (Y.is [a,b] ts))∧w=w':=by
 have HK:=aA (zgm L B R px py ts w hr)
 obtain⟨A,c,h0,h3,_,hc,ht,_⟩:=hr.cell0
 rcases ts with _|⟨t,r⟩
 ·clear hr ht
  go_enter Try.func80,Try.ntmps80
  go_wp2
  go_ret
  exact⟨rfl,rfl⟩
 ·have hl:0<((t::r).length:Int):=by simp
  have HE:Hid (Y.is [a,b] (t::r)=((t.k==a)||(t.k==b))):=aA (by show [a,b].contains t.k=_;simp[List.contains,List.elem];cases (t.k==a) <;> cases (t.k==b) <;> rfl)
  have HK2:Hid (kd (t::r)=t.k):=aA rfl
  rw[HE.out]
  rw[HK2.out]at HK
  clear hr ht
  generalize (t::r).length=n at *
  generalize t.k=z at *
  by_cases ha:z=a
  ·have ha':(z==a)=true:=by simpa using ha
   rw[ha',Bool.true_or]
   clear ha
   go_enter Try.func80,Try.ntmps80
   go_wp2_with fail
   refine HK.out.mono ?_;rintro _ _ ⟨rfl,rfl⟩
   go_wp2
   go_ret
   exact⟨rfl,rfl⟩
  ·have ha':(z==a)=false:=by simpa using ha
   rw[ha',Bool.false_or]
   clear ha
   generalize hb:(z==b)=q at *
   go_enter Try.func80,Try.ntmps80
   go_wp2_with fail
   refine HK.out.mono ?_;rintro _ _ ⟨rfl,rfl⟩
   go_wp2_with fail
   refine HK.out.mono ?_;rintro _ _ ⟨rfl,rfl⟩
   go_wp2
   go_ret
   exact⟨rfl,rfl⟩
theorem zc6 (L:List Int) (B R px py:Nat) (t:Tok) (r:List Tok) (a b:Int) (w:World) (hr:Rd8 L B R px py w (t::r)) (hk:Y.is [a,b] (t::r)=true) :
  Calls Try.prog 51 #[.pointer (some ⟨R,0,none⟩),.int .i64 a,.int .i64 b] w fun e w'=>e=.returned (aY L t)∧w.grownBy w' (some R)∧Rd8 L B R px py w' r:=by
 have HR:=aA (fun(w1:World) (h1:Below w.heap.size w w1)=>hr.grown (row:=.none) (zae h1 .none) (fun _ e=>by cases e))
 have HB0:=aA (fun o=>((Below.refl w.heap.size w).alloc (Nat.le_refl _) o))
 have hlt:=hr.lt
 obtain⟨A,c,h0,h3,hf,hc,ht,hset⟩:=hr.cell0
 obtain⟨g,o,hA,hgB,hcl⟩:=ht (by simp)
 have hc0:w.cell? ⟨g,o,none⟩=some (.int .i64 t.k):=hcl 0 0 _ (by simp) rfl
 have hc1:w.cell? ⟨g,o+1,none⟩=some (.string (K.str t.t)):=hcl 0 1 _ (by simp) rfl
 have hc2:w.cell? ⟨g,o+2,none⟩=some (.complex .f64 (Fl.fl (Pl.pos (L.take t.o)).1) (Fl.fl (Pl.pos (L.take t.o)).2)):=hcl 0 2 _ (by simp) rfl
 have hglt:g<w.heap.size:=by obtain⟨_,_,_,_,_,_,hBR⟩:=hr;omega
 have HIS:=aA (fun(w1:World) (h1:Below w.heap.size w w1)=>is8 L B R px py (t::r) a b w1 (HR.out w1 h1))
 rw[hk]at HIS
 have HT:=aA (ht.tail hc)
 have HSET:=aA hset
 have S1:=fun w=>zdV w A c (t::r).length (by simp)
 have SC:=fun a w m X Y=>show(store a (.complex .f64 X Y) m).run Try.prog w=stored Try.prog w a (.complex .f64 X Y) m from run_store _ w a _ m rfl
 have hl0:(((t::r).length:Int)==0)=false:=by simp;omega
 have hl1:0<(t::r).length:=by simp
 have HN:Hid ((t::r).length=r.length+1∧r.length+1≤c∧r.length+1≤4000):=aA ⟨rfl,hc,by obtain⟨_,_,_,_,h4,_,_⟩:=hr;simpa using h4⟩
 unfold aY
 clear hr ht hcl hset hk
 subst hA
 generalize (t::r).length=n at *
 generalize t.k=z at *
 generalize K.str t.t=st at *
 generalize Fl.fl (Pl.pos (L.take t.o)).1=X at *
 generalize Fl.fl (Pl.pos (L.take t.o)).2=Y' at *
 go_enter Try.func51,Try.ntmps51
 go_wp2_with fail
 refine(HIS.out _ (HB0.out _)).mono ?_;rintro _ w2 ⟨rfl,rfl⟩
 go_wp2
 have hk:=HSET.out (zeJ (some ⟨g,o,none⟩) c) (c-1) r (by have:=HN.out;omega) (by have:=HN.out;omega) HT.out
 refine bodyPost_ret (v:=.agg #[.string st,.complex .f64 X Y']) (by simp[results,Try.results51,go_sem]) rfl ⟨rfl,aC (aC (aD (World.grownBy.refl _ _) _ _) _) _,?_⟩
 rw[show n-1=r.length by have:=HN.out;omega]
 exact(hk.alloc _).alloc _
def zhC (L:List Int) (B R px py:Nat) (ts:List Tok) (w:World) (e:Ending) (w':World):Prop :=
 w.grownBy w' (some R)∧∃v,e=.returned v∧aW L w' w.heap.size v (ts.takeWhile Y.isRef)∧Rd8 L B R px py w' (ts.dropWhile Y.isRef)
theorem zgf (L:List Int) (B R px py:Nat) (ts:List Tok) (w:World) (hr:Rd8 L B R px py w ts) :
  Calls Try.prog 79 #[.pointer (some ⟨R,0,none⟩)] w (zhC L B R px py ts w):=by
 have HR:=aA hr
 have hRlt:=hr.lt
 have hts:ts.length≤4000:=by obtain⟨_,_,_,_,h,_⟩:=hr;exact h
 clear hr
 go_enter Try.func79,Try.ntmps79
 go_wp2
 go_loopw [3] (fun v wr=>∃(acc rest:List Tok),aW L wr w.heap.size v acc∧Rd8 L B R px py wr rest∧w.grownBy wr (some R)∧acc.length+rest.length=ts.length∧acc++rest.takeWhile Y.isRef=ts.takeWhile Y.isRef∧rest.dropWhile Y.isRef=ts.dropWhile Y.isRef) (fun v _=>4001-zbN v)
 case atStart=>exact⟨[],ts,aW.nil _ _ _,HR.out,World.grownBy.refl _ _,by simp,rfl,rfl⟩
 case round =>
  clear HR
  obtain⟨acc,rest,ho,hr,hg,hlen,htk,hdp⟩:=hrel
  have HO:=aA ho
  have HR:=aA hr
  have HG:=aA hg
  have HL:=aA hlen
  have HTK:=aA htk
  have HDP:=aA hdp
  obtain⟨A,c,rfl,hc1,hc2⟩:=ho.rd
  have HIS:=aA (is8 L B R px py rest 1 2 wr hr)
  clear ho hr hg hlen htk hdp hc1 hc2
  rcases hb:Y.is [1,2] rest with _|_
  ·rw[hb]at HIS
   have HB:=aA hb
   clear hb
   go_wp2_with fail
   refine HIS.out.mono ?_;rintro _ w2 ⟨rfl,rfl⟩
   go_wp2
   go_ret
   obtain⟨e1,e2⟩:=Y.refs_end HB.out
   rw[e1,List.append_nil]at HTK
   rw[e2]at HDP
   refine⟨HG.out,_,rfl,?_,?_⟩
   ·rw[←HTK.out];exact HO.out
   ·rw[←HDP.out];exact HR.out
  ·rw[hb]at HIS
   have HB:=aA hb
   obtain⟨t,r,rfl,htake,hk⟩:=Y.is_true hb
   have HRF:=aA (zc6 L B R px py t r 1 2 wr HR.out hb)
   have HK:Hid (Y.isRef t=true):=aA hk
   clear hb htake hk
   unfold aY at HRF
   go_wp2_with fail
   refine HIS.out.mono ?_;rintro _ w2 ⟨rfl,rfl⟩
   go_wp2_with fail
   refine HRF.out.mono ?_;rintro _ w3 ⟨rfl,hg3,hrd⟩
   have HG3:=aA hg3
   have HRD:=aA hrd
   have HO3:=aA (HO.out.grown hg3 HR.out.other)
   clear hg3 hrd
   have HCE:=aA (zeA L w3 t)
   have HS0:Hid (w.heap.size≤w3.heap.size):=aA (by have h1:=HG.out.size;have h3:=HG3.out.size;omega)
   have HAC:Hid (acc.length≤4000):=aA (by have:=HL.out;simp at this;omega)
   go_wp2_with (at_builtin;refine zgw rfl (.tmp 6) (.tmp 9) _ rfl Try.underlying83 L w.heap.size _ acc rfl (HO3.out.alloc _) w3.heap.size 1 t rfl HCE.out (by have:=HAC.out;omega) (by have:=HS0.out;simp;omega) ?_;intro v4 w4 ho4 hg4)
   have HG4:=aA (zaf (aC (HG.out.trans HG3.out) _) (HO3.out.alloc _) hg4)
   have HRD4:=aA ((HRD.out.alloc _).own (HO3.out.alloc _) hg4 hRlt)
   have HO4:=aA ho4
   clear ho4 hg4
   go_roundw
   case rel =>
    refine⟨acc++[t],r,HO4.out,HRD4.out,HG4.out,?_,?_,?_⟩
    ·have:=HL.out;simp at this ⊢;omega
    ·rw[←HTK.out,List.takeWhile_cons,HK.out];simp
    ·rw[←HDP.out,List.dropWhile_cons,HK.out];rfl
   case measure =>
    obtain⟨A4,c4,rfl,_,_⟩:=HO4.out.rd
    have:=HAC.out
    simp[zbN];omega
namespace Y
theorem zdR (left:Tok):∀(f:Nat) (acc:List Prd) (ts:List Tok) (ps:List Prd) (r:List Tok),alts f left acc ts=.ok ps r→ps.length+r.length≤acc.length+ts.length
 | 0,acc,ts,ps,r,h=>by injection h with h1 h2;subst h1 h2;exact Nat.le_refl _
 | f+1,acc,ts,ps,r,h=>by
  rw[alts]at h
  obtain⟨p,m,h1,h2⟩:=bind_eq_ok h
  obtain⟨t,m2,h3,h4⟩:=bind_eq_ok h2
  have e1:=zfm h1
  have e2:=congrArg List.length (take_ok h3).1
  simp at e2
  split at h4
  ·have:=zdR left f _ _ _ _ h4
   simp at this
   omega
  ·injection h4 with h5 h6
   subst h5 h6
   simp
   omega
theorem group_len {acc ps:List Prd} {ts r:List Tok} (h:group acc ts=.ok ps r):ps.length+r.length<acc.length+ts.length:=by
 unfold group at h
 obtain⟨t,m,h1,h2⟩:=bind_eq_ok h
 obtain⟨u,m2,h3,h4⟩:=bind_eq_ok h2
 have e1:=congrArg List.length (take_ok h1).1
 have e2:=congrArg List.length (take_ok h3).1
 have e3:=zdR _ _ _ _ _ _ h4
 simp at e1 e2
 omega
end Y
theorem zdA {w:World} {base:Nat} {v:Value} {n size g:Nat} {e t:TypeId} {xs:List Value} {cs:Array Value} (h:w.ownsRow base e size v n xs) (hb:w.heap[g]?=some (.cells cs t (0,0))) (he:e≠t):v.ownBlock≠some g:=by
 intro hk
 rcases h.2 with⟨rfl,_⟩|⟨g',cap,cur',rfl,_,hg,_⟩
 ·cases hk
 ·injection hk with hk
  have hk':g'=g:=hk
  subst hk'
  rw[hg]at hb
  injection hb with e1
  injection e1 with _ e2
  exact he e2
theorem zbp {w w':World} {base:Nat} {v:Value} {n size g:Nat} {e t:TypeId} {xs:List Value} {cs:Array Value} (h:w.ownsRow base e size v n xs) (hb:w.heap[g]?=some (.cells cs t (0,0))) (he:e≠t) (hg:w.grownBy w' v.ownBlock):w'.heap[g]?=some (.cells cs t (0,0)) :=
 (hg.block g (Array.getElem?_eq_some_iff.1 hb).1 (fun e'=>zdA h hb he e'.symm)).trans hb
theorem zdQ {w:World} {o:Oper} {a:Act} {K:Act→World→Prop} {Q:Exit→Act→World→Prop}
  (s x:Operand) (t:TypeId) (ho:o.op=.call {callee:=.builtin .append,args:=#[s,x],argTypes:=#[t,t]}) (ht:Try.prog.underlying t=some (.slice 115))
  (L:List Int) (base:Nat) (v:Value) (ds:List Y.Dcl) (hs:a.eval s=v) (hown:aU L w base v ds) (g c:Nat) (d:Y.Dcl) (A:Option Addr) (dc:Nat) (hx:a.eval x=.slice (some ⟨g,0,none⟩) 1 c) (hz:∀j u,(zaJ d A dc)[j]?=some u→w.cell? ⟨g,j,none⟩=some u) (hr:RdR L w base A d.ns)
  (hlen:ds.length≤1000000) (hbase:base≤w.heap.size)
  (hK:∀v' w',aU L w' base v' (ds++[d])→w.grownBy w' v.ownBlock→K (a.put o.dst v') w') :
  o.wp Try.prog a w K Q:=by
 obtain⟨i,hi,hz0,hz1,hz2⟩:=info_parts zhx
 obtain⟨qs,hq1,hq2,hq3⟩:=hown
 refine wp_append_own w s x t ho base 115 i _ 2 32 ht hi hz0 hz1 hz2 rfl (by decide) v ds.length (zhd qs) hs hq2 ⟨g,0,none⟩ 1 c (zaJ d A dc) hx rfl ?_ (fun u hu=>by simp[zaJ]at hu;rcases hu with rfl|rfl <;> rfl) (by unfold maxLen;omega) (by omega) hbase fun v' w' h1 h2 _=>hK v' w' ?_ h2
 ·intro j u hj
  rw[zdr,Nat.zero_add]
  exact hz j u hj
 ·have ho:=zaq hq2 (by decide)
  refine⟨qs++[(d,A,dc)],by rw[List.map_append,hq1];rfl,?_,fun q hq=>?_⟩
  ·rw[List.length_append]
   unfold zhd
   rw[List.flatMap_append,List.flatMap_singleton]
   exact h1
  ·rcases List.mem_append.1 hq with h|h
   ·exact(hq3 q h).grown h2 ho
   ·rw[List.mem_singleton]at h
    subst h
    exact hr.grown h2 ho
theorem aT.less {L:List Int} {w:World} {base base':Nat} {v:Value} {ps:List Y.Prd} (h:aT L w base v ps) (hb:base'≤base):aT L w base' v ps:=by
 obtain⟨qs,h1,h2,h3⟩:=h
 refine⟨qs,h1,⟨h2.1,?_⟩,fun q hq=>(h3 q hq).less hb⟩
 rcases h2.2 with h0|⟨g,cap,cur,e,hb1,hr⟩
 ·exact .inl h0
 ·exact .inr ⟨g,cap,cur,e,by omega,hr⟩
def zcu (n:Nat) (w:World):Nat:=match w.cell? ⟨n,0,none⟩ with|some (.slice _ k _)=>k|_=>0
theorem aU.less {L:List Int} {w:World} {base base':Nat} {v:Value} {ds:List Y.Dcl} (h:aU L w base v ds) (hb:base'≤base):aU L w base' v ds:=by
 obtain⟨qs,h1,h2,h3⟩:=h
 refine⟨qs,h1,⟨h2.1,?_⟩,fun q hq=>(h3 q hq).less hb⟩
 rcases h2.2 with h0|⟨g,cap,cur,e,hb1,hr⟩
 ·exact .inl h0
 ·exact .inr ⟨g,cap,cur,e,by omega,hr⟩
theorem zaE {B g i:Nat} {a w:World} (h:Below B a w) (u:Value) (hg:B≤g):Below B a (w.setCell ⟨g,i,none⟩ u) :=
 ⟨h.os,h.tape,h.output,by simpa[World.setCell] using h.size,fun k hk=>(Below.heap_setCell w ⟨g,i,none⟩ u k (by simp only;omega)).trans (h.block k hk)⟩
end Go.Proofs.Ytcgclkndkahgaaa
namespace Go.Proofs.Ytcgclkndkahgaaa
set_option maxRecDepth 100000
set_option maxHeartbeats 40000000
structure Stands (L:List Int) (x:Tok):Prop where
 o:x.o<L.length
 len:x.t.length≤L.length-x.o
 text:(L.drop x.o).take x.t.length=x.t
 name:(x.k==1)=T.isName x.t
 lit:(x.k==2)=T.isLit x.t
 bytes:K.Bytes x.t
theorem zdU (L:List Int) (hL:K.Bytes L) (k:Nat) (hk:k<L.length) (x:T.P3) (hf:T.Fine (L.drop k) x) (he:x.2.2=0):Stands L ⟨x.1,aP x.1 ((L.drop k).take x.2.1),k⟩:=by
 obtain⟨xk,xn,xe⟩:=x
 obtain⟨h1,_,_,_,_,_⟩:=hf
 obtain⟨h2,h3,h4,h5⟩:=h1 he
 simp only at h2 h3 h4 h5
 rw[List.length_drop]at h3
 have hlen:((L.drop k).take xn).length=xn:=by rw[List.length_take,List.length_drop];omega
 by_cases hk1:xk=1
 ·subst hk1
  have hn:=h4 rfl
  have e:aP 1 ((L.drop k).take xn)=(L.drop k).take xn:=by simp[aP]
  refine⟨hk,?_,?_,?_,?_,?_⟩
  ·simp only;rw[e,hlen];exact h3
  ·simp only;rw[e,hlen]
  ·simp only;rw[e,hn];rfl
  ·simp only;rw[e,T.name_lit _ hn];rfl
  ·simp only;rw[e];exact(hL.drop k).take xn
 ·by_cases hk2:xk=2
  ·subst hk2
   have hn:=h5 rfl
   have e:aP 2 ((L.drop k).take xn)=(L.drop k).take xn:=by simp[aP]
   have hnn:T.isName ((L.drop k).take xn)=false:=by
    rcases hq:T.isName ((L.drop k).take xn) with _|_
    ·rfl
    ·have:=T.name_lit _ hq;rw[hn]at this;cases this
   refine⟨hk,?_,?_,?_,?_,?_⟩
   ·simp only;rw[e,hlen];exact h3
   ·simp only;rw[e,hlen]
   ·simp only;rw[e,hnn];rfl
   ·simp only;rw[e,hn];rfl
   ·simp only;rw[e];exact(hL.drop k).take xn
  ·have e:aP xk ((L.drop k).take xn)=[]:=by unfold aP;rw[if_neg (by omega)]
   refine⟨hk,?_,?_,?_,?_,?_⟩
   ·simp only;rw[e];simp
   ·simp only;rw[e];simp
   ·simp only;rw[e,beq_eq_false_iff_ne.2 hk1];rfl
   ·simp only;rw[e,beq_eq_false_iff_ne.2 hk2];rfl
   ·simp only;rw[e];exact K.Bytes.nil
def ze9 (L:List Int) (k:Nat) (xs:List Tok):Prop:=(∀x∈xs,Stands L x∧x.o<k)∧xs.Pairwise (fun a b=>a.o<b.o)
theorem zcH (L:List Int) (hL:K.Bytes L):∀(f k m:Nat) (acc xs:List Tok),k≤L.length→ze9 L k acc→zeb f (L.drop k) k m acc=.ok xs→ze9 L L.length xs
 | 0,k,m,acc,xs,hk,hr,h=>by
  injection h with h
  subst h
  exact⟨fun x hx=>⟨(hr.1 x hx).1,(hr.1 x hx).1.o⟩,hr.2⟩
 | f+1,k,m,acc,xs,hk,hr,h=>by
  by_cases he:(L.drop k).length=0∨m=2
  ·rw[zdx _ _ _ _ _ he]at h
   injection h with h
   subst h
   exact⟨fun x hx=>⟨(hr.1 x hx).1,(hr.1 x hx).1.o⟩,hr.2⟩
  ·have hlt:k<L.length:=by rw[List.length_drop]at he;omega
   have hf:=T.piece_fine (L.drop k) (by rw[List.length_drop];omega) (hL.drop k)
   by_cases hb:(T.piece (L.drop k)).2.2=0
   ·rw[zet _ _ _ _ _ he hb]at h
    obtain⟨hn1,hn2,_,_⟩:=hf.1 hb
    rw[List.length_drop]at hn2
    rw[List.drop_drop]at h
    refine zcH L hL f _ _ _ xs (by omega) ?_ h
    unfold more
    split
    ·exact⟨fun x hx=>⟨(hr.1 x hx).1,by have:=(hr.1 x hx).2;omega⟩,hr.2⟩
    ·refine⟨fun x hx=>?_,?_⟩
     ·rcases List.mem_append.1 hx with h1|h1
      ·exact⟨(hr.1 x h1).1,by have:=(hr.1 x h1).2;omega⟩
      ·rw[List.mem_singleton]at h1
       subst h1
       exact⟨zdU L hL k hlt _ hf hb,by simp only;omega⟩
     ·rw[List.pairwise_append]
      refine⟨hr.2,List.pairwise_singleton _ _,fun a ha b hb'=>?_⟩
      rw[List.mem_singleton]at hb'
      subst hb'
      exact(hr.1 a ha).2
   ·rw[zdy _ _ _ _ _ he hb]at h
    cases h
theorem zeg (L:List Int) (hL:K.Bytes L) (xs:List Tok) (h:zf7 L=.ok xs):ze9 L L.length xs :=
 zcH L hL _ 0 0 [] xs (Nat.zero_le _) ⟨fun x hx=>by simp at hx,List.Pairwise.nil⟩ (by simpa[zf7] using h)
theorem ze9.lt {L:List Int} {k:Nat} {xs:List Tok} (h:ze9 L k xs) (i j:Nat) (hij:i<j) (hj:j<xs.length):xs[i].o<xs[j].o :=
 List.pairwise_iff_getElem.1 h.2 i j (by omega) hj hij
theorem ze9.at {L:List Int} {k:Nat} {xs:List Tok} (h:ze9 L k xs) (i:Nat) (hi:i<xs.length):Stands L xs[i]:=(h.1 _ (List.getElem_mem hi)).1
theorem ze9.ge {L:List Int} {k:Nat} {xs:List Tok} (h:ze9 L k xs):∀(i:Nat) (hi:i<xs.length),i≤xs[i].o
 | 0,_=>Nat.zero_le _
 | i+1,hi=>by
  have h1:=h.ge i (by omega)
  have h2:=h.lt i (i+1) (by omega) hi
  omega
theorem ze9.count {L:List Int} {k:Nat} {xs:List Tok} (h:ze9 L k xs):xs.length≤L.length:=by
 rcases Nat.eq_zero_or_pos xs.length with h0|h0
 ·omega
 ·have h1:=h.ge (xs.length-1) (by omega)
  have h2:=(h.at (xs.length-1) (by omega)).o
  omega
end Go.Proofs.Ytcgclkndkahgaaa
namespace Go.Proofs.Ytcgclkndkahgaaa
set_option maxRecDepth 100000
set_option maxHeartbeats 40000000
open Go.RowKit
theorem zaP (w:World) (A:Option Addr) (c n i j:Nat) (h1:i≤j) (h2:j≤c):(Instr.sliceAt 38 (.slice A n c) (some (.int .i64 i)) (some (.int .i64 j)) none).run Try.prog w=.ok (.slice (dropA A c i) (j-i) (c-i)) w:=by
 rw[run_sliceAt_slice _ _ _ _ _ _ (by kernel_rfl),run_slice_lh _ _ _ _ _ (by kernel_rfl) .i64 .i64 (i:Int) (j:Int) (by omega) (by omega) (by omega)]
 have hs:(sizeOf (Try.prog.elem 38)).run Try.prog w=.ok 1 w:=by kernel_rfl
 rw[hs]
 simp[Result.andThen,sliced,dropA]
namespace T
theorem str_list (l:List Int):(K.str l).toList=Lib.bytesOf l:=by
 rw[ByteArray.toList_eq];rfl
theorem pre_take (l s:List Int):pre l s=((K.str (l.take s.length)).toList==(K.str s).toList):=by
 rw[str_list,str_list]
 have e:Lib.bytesOf (l.take s.length)=(Lib.bytesOf l).take (Lib.bytesOf s).length:=by simp[Lib.bytesOf,List.map_take]
 rw[e]
 unfold pre Lib.hasPrefix
 rw[Bool.eq_iff_iff,List.isPrefixOf_iff_prefix,beq_iff_eq,List.prefix_iff_eq_take,eq_comm]
theorem pre_short (l s:List Int) (h:l.length<s.length):pre l s=false:=by
 rcases hp:pre l s with _|_
 ·rfl
 ·have:=zbC l s hp;omega
theorem ix_cons (z:Int) (r s:List Int):ix (z::r) s=if pre (z::r) s then 0 else if ix r s<0 then -1 else ix r s+1:=by
 unfold ix pre Lib.hasPrefix
 rw[show Lib.bytesOf (z::r)=UInt8.ofNat z.toNat::Lib.bytesOf r from rfl,Lib.index]
 have:=Lib.index_ge (Lib.bytesOf r) (Lib.bytesOf s)
 split
 ·rfl
 ·by_cases h:Lib.index (Lib.bytesOf r) (Lib.bytesOf s) = -1
  ·rw[h];simp
  ·have h1:(Lib.index (Lib.bytesOf r) (Lib.bytesOf s) == -1)=false:=by simpa using h
   rw[h1]
   simp only[Bool.false_eq_true,if_false]
   rw[if_neg (by omega)]
theorem ix_nil (s:List Int) (h:s.length≠0):ix [] s = -1:=by
 cases s with
 | nil=>simp at h
 | cons a b=>rfl
theorem ix_next (l s:List Int) (k:Nat) (h:k<l.length):ix (l.drop k) s=if pre (l.drop k) s then 0 else if ix (l.drop (k+1)) s<0 then -1 else ix (l.drop (k+1)) s+1:=by
 rw[L.cons_drop l k h,ix_cons]
end T
theorem zaF (A:Option Addr) (c B:Nat) (l s:List Int) (k:Nat) (w:World) (hr:RdB w B A l) (hl:K.Bytes l) (hc:l.length≤c) (hn:l.length≤5000) (hk:k≤l.length) (hs:s.length≤5000) :
  Calls Try.prog 68 #[.slice A l.length c,.int .i64 k,.string (K.str s)] w fun e w'=>e=.returned (.bool (T.pre (l.drop k) s))∧w=w':=by
 have hsz:=K.str_size s
 by_cases h:k+s.length≤l.length
 ·have hp:=T.pre_take (l.drop k) s
  have C1:=zbn (((hr.dropA hc k).take s.length)) ((hl.drop k).take s.length) (c-k)
  have S1:=fun w=>zaP w A c l.length k (k+s.length) (by omega) (by omega)
  rw[List.length_take,List.length_drop,Nat.min_eq_left (by omega)]at C1
  rw[show k+s.length-k=s.length by omega]at S1
  have hsz2:(k:Int)+((K.str s).size:Int)=((k+s.length:Nat):Int):=by rw[hsz];omega
  have h1:((k+s.length:Nat):Int)≤(l.length:Int):=by omega
  have HP:=aA hp
  clear hp hsz hr hl hk hs hc
  generalize T.pre (l.drop k) s=pb at *
  generalize K.str (List.take s.length (List.drop k l))=st at *
  generalize K.str s=s2 at *
  generalize k+s.length=m at *
  generalize dropA A c k=D at *
  generalize c-k=c2 at *
  generalize s.length=sl at *
  go_enter Try.func68,Try.ntmps68
  go_wp2_with (first|simp only[S1]|simp only[C1])
  go_ret
  exact⟨aF HP.out.symm,rfl⟩
 ·rw[T.pre_short (l.drop k) s (by rw[List.length_drop];omega)]
  have h1:¬(k:Int)+((K.str s).size:Int)≤(l.length:Int):=by rw[hsz];omega
  have h2:(k:Int)+((K.str s).size:Int)≤20000:=by rw[hsz];omega
  have h3:0≤(k:Int)+((K.str s).size:Int):=by omega
  clear hr hl hk hs hc hsz
  generalize K.str s=s2 at *
  go_enter Try.func68,Try.ntmps68
  go_wp2
  go_ret
  exact⟨rfl,rfl⟩
def T.pastV (l s:List Int) (k:Nat):Int:=if T.ix (l.drop k) s<0 then -1 else k+T.ix (l.drop k) s+s.length
theorem T.pastV_on (l s:List Int) (k:Nat) (h:k<l.length) (hp:T.pre (l.drop k) s=false):T.pastV l s k=T.pastV l s (k+1):=by
 unfold T.pastV
 have hx:=T.ix_next l s k h
 rw[hp]at hx
 simp only[Bool.false_eq_true,if_false]at hx
 have hg:=T.ix_ge (l.drop (k+1)) s
 by_cases h1:T.ix (l.drop (k+1)) s<0
 ·rw[if_pos h1]at hx
  rw[if_pos (by omega),if_pos h1]
 ·rw[if_neg h1]at hx
  rw[if_neg (by omega),if_neg h1,hx]
  simp only[Int.natCast_add]
  omega
theorem T.pastV_here (l s:List Int) (k:Nat) (h:k<l.length) (hp:T.pre (l.drop k) s=true):T.pastV l s k=k+s.length:=by
 unfold T.pastV
 have hx:=T.ix_next l s k h
 rw[hp,if_pos rfl]at hx
 rw[hx];simp
theorem T.pastV_end (l s:List Int) (k:Nat) (h:l.length≤k) (hs:s.length≠0):T.pastV l s k = -1:=by
 unfold T.pastV
 rw[List.drop_eq_nil_of_le h,T.ix_nil s hs];rfl
theorem zbx (A:Option Addr) (c B:Nat) (l s:List Int) (k:Nat) (w:World) (hr:RdB w B A l) (hl:K.Bytes l) (hc:l.length≤c) (hn:l.length≤5000) (hk:k≤6000) (hs:s.length≤5000) (hs0:s.length≠0) :
  Calls Try.prog 69 #[.slice A l.length c,.int .i64 k,.string (K.str s)] w fun e w'=>e=.returned (.int .i64 (T.pastV l s k))∧w=w':=by
 have HP:=aA (fun(j:Nat) (h:j≤l.length)=>zaF A c B l s j w hr hl hc hn h hs)
 have hsz:=aA (K.str_size s)
 have HE:=aA (fun j h=>T.pastV_end l s j h hs0)
 have HH:=aA (T.pastV_here l s)
 have HO:=aA (T.pastV_on l s)
 clear hr hl hc hs0
 go_enter Try.func69,Try.ntmps69
 go_wp2
 go_loop [1] (fun vi=>∃(j:Nat),j≤6000∧vi=.int .i64 j∧T.pastV l s j=T.pastV l s k) (fun vi=>6001-(intOf vi).toNat)
 case atStart=>exact⟨k,hk,rfl,rfl⟩
 case round =>
  obtain⟨j,hj,rfl,he⟩:=hrel
  have HV:=aA he
  clear he
  by_cases hlt:j<l.length
  ·have HPj:=aA (HP.out j (by omega))
   rcases hb:T.pre (l.drop j) s with _|_
   ·rw[hb]at HPj
    have HN:=aA (HO.out j hlt hb)
    clear hb HP HE HH HO
    go_wp2_with fail
    refine HPj.out.mono ?_;rintro _ w' ⟨rfl,rfl⟩
    go_wp2
    go_round
    case rel=>exact⟨j+1,by omega,by go_num,by rw[←HV.out,HN.out]⟩
    case measure=>simp[intOf];omega
   ·rw[hb]at HPj
    have HN:=aA (HH.out j hlt hb)
    clear hb HP HE HH HO
    have hsz2:=hsz.out
    have hb1:(j:Int)+((K.str s).size:Int)≤20000:=by rw[hsz2];omega
    have HZ:=aA hsz2
    clear hsz2 hsz
    generalize K.str s=s2 at *
    go_wp2_with fail
    refine HPj.out.mono ?_;rintro _ w' ⟨rfl,rfl⟩
    go_wp2
    go_ret
    exact⟨zak (by rw[←HV.out,HN.out,HZ.out]),rfl⟩
  ·have HN:=aA (HE.out j (by omega))
   clear HP HE HH HO
   go_wp2
   go_ret
   exact⟨zak (by rw[←HV.out,HN.out]),rfl⟩
theorem T.line_cons (z:Int) (r:List Int) (hb:K.Bytes (z::r)):T.line (z::r)=if z=10 then [] else z::T.line r:=by
 have hp:T.pre (z::r) [10]=decide (z=10):=by
  unfold T.pre Lib.hasPrefix
  simp only[Lib.bytesOf,List.map_cons,List.map_nil,List.isPrefixOf,Bool.and_true]
  have:=hb.hd
  rw[Bool.eq_iff_iff,decide_eq_true_iff,beq_iff_eq]
  constructor
  ·intro h
   have:=congrArg UInt8.toNat h
   simp at this
   omega
  ·rintro rfl;rfl
 have hx:=T.ix_cons z r [10]
 have hg:=T.ix_ge r [10]
 rw[hp]at hx
 unfold T.line
 by_cases h:z=10
 ·rw[if_pos h]
  rw[decide_eq_true h,if_pos rfl]at hx
  rw[hx];rfl
 ·rw[if_neg h]
  rw[decide_eq_false h,if_neg (by simp)]at hx
  by_cases h1:T.ix r [10]<0
  ·rw[if_pos h1]at hx
   rw[if_neg (by omega),if_neg (by omega)]
  ·rw[if_neg h1]at hx
   rw[if_pos (by omega),if_pos (by omega),hx]
   rw[show(T.ix r [10]+1).toNat=(T.ix r [10]).toNat+1 by omega];rfl
theorem zcK (A:Option Addr) (c B:Nat) (l:List Int) (k:Nat) (w:World) (hr:RdB w B A l) (hl:K.Bytes l) (hn:l.length≤5000) (hk:k≤l.length) :
  Calls Try.prog 70 #[.slice A l.length c,.int .i64 k] w fun e w'=>e=.returned (.int .i64 ((k+(T.line (l.drop k)).length:Nat):Int))∧w=w':=by
 go_enter Try.func70,Try.ntmps70
 go_wp2
 go_loop [1] (fun vi=>∃(j:Nat),j≤l.length∧vi=.int .i64 j∧j+(T.line (l.drop j)).length=k+(T.line (l.drop k)).length) (fun vi=>l.length-(intOf vi).toNat)
 case atStart=>exact⟨k,hk,rfl,rfl⟩
 case round =>
  obtain⟨j,hj,rfl,he⟩:=hrel
  have HV:=aA he
  clear he
  by_cases hlt:j<l.length
  ·obtain⟨g,o,rfl,_,hcl⟩:=hr (by omega)
   have hcell:=hcl j (by omega)
   have hcd:=L.cons_drop l j hlt
   have hlc:=T.line_cons (l.getD j 0) (l.drop (j+1)) (hcd▸hl.drop j)
   rw[←hcd]at hlc
   have HL:=aA hlc
   clear hcl hr hl hcd hlc
   generalize l.getD j 0=z at *
   by_cases h10:z=10
   ·subst h10
    go_wp2
    go_ret
    exact⟨zak (by have h:=HV.out;have h2:=HL.out;simp only[if_true]at h2;rw[h2]at h;simp at h;omega),rfl⟩
   ·have h11:(z==10)=false:=by simpa using h10
    have HN:=aA h10
    clear h10
    go_wp2
    go_round
    case rel=>exact⟨j+1,by omega,by go_num,by rw[←HV.out,HL.out,if_neg HN.out];simp;omega⟩
    case measure=>simp[intOf];omega
  ·obtain rfl:j=l.length:=by omega
   clear hr hl
   go_wp2
   go_ret
   exact⟨zak (by have h:=HV.out;rw[List.drop_length,show T.line []=[] from rfl]at h;simp at h;omega),rfl⟩
def T.quoV (q:Int) (l:List Int) (k:Nat):Int:=match T.quoted q (l.drop k) with|none=>-1|some n=>k+n
theorem T.quoted_nil (q:Int):T.quoted q []=none:=by simp[T.quoted]
theorem T.quoV_end (q:Int) (l:List Int) (k:Nat) (h:l.length≤k):T.quoV q l k = -1:=by
 unfold T.quoV
 rw[List.drop_eq_nil_of_le h,T.quoted_nil]
theorem T.quoV_here (q:Int) (l:List Int) (k:Nat) (h:k<l.length) (hq:l.getD k 0=q):T.quoV q l k=k+1:=by
 unfold T.quoV
 rw[L.cons_drop l k h,hq]
 have:T.quoted q (q::l.drop (k+1))=some 1:=by unfold T.quoted;rw[if_pos rfl]
 rw[this];rfl
theorem T.quoV_on (q:Int) (l:List Int) (k:Nat) (h:k<l.length) (hq:¬l.getD k 0=q) (h92:¬l.getD k 0=92):T.quoV q l k=T.quoV q l (k+1):=by
 unfold T.quoV
 rw[L.cons_drop l k h]
 have:T.quoted q (l.getD k 0::l.drop (k+1))=(T.quoted q (l.drop (k+1))).map (· + 1):=by
  generalize l.drop (k+1)=r
  cases r with
  | nil =>
   rw[T.quoted_nil]
   have h1:T.quoted q [l.getD k 0]=none:=by
    generalize l.getD k 0=z at *
    simp[T.quoted,hq,h92]
   rw[h1];rfl
  | cons a b=>rw[T.quoted,if_neg hq,if_neg h92]
 rw[this]
 cases T.quoted q (l.drop (k+1)) with
 | none=>rfl
 | some n=>simp only[Option.map_some];omega
theorem T.quoV_two (q:Int) (l:List Int) (k:Nat) (h:k<l.length) (hq:¬l.getD k 0=q) (h92:l.getD k 0=92):T.quoV q l k=T.quoV q l (k+2):=by
 unfold T.quoV
 rw[L.cons_drop l k h]
 by_cases h2:k+1<l.length
 ·rw[L.cons_drop l (k+1) h2]
  have:T.quoted q (l.getD k 0::l.getD (k+1) 0::l.drop (k+1+1))=(T.quoted q (l.drop (k+2))).map (· + 2):=by
   rw[T.quoted,if_neg hq,if_pos h92]
  rw[this]
  cases T.quoted q (l.drop (k+2)) with
  | none=>rfl
  | some n=>simp only[Option.map_some];omega
 ·rw[List.drop_eq_nil_of_le (by omega:l.length≤k+1),List.drop_eq_nil_of_le (by omega:l.length≤k+2),T.quoted_nil]
  have:T.quoted q [l.getD k 0]=none:=by rw[T.quoted,if_neg hq,if_pos h92]
  rw[this]
theorem zc8 (A:Option Addr) (c B:Nat) (l:List Int) (k:Nat) (w:World) (hr:RdB w B A l) (hn:l.length≤5000) (hk:k<l.length) :
  Calls Try.prog 89 #[.slice A l.length c,.int .i64 k] w fun e w'=>e=.returned (.int .i64 (T.quoV (l.getD k 0) l (k+1)))∧w=w':=by
 obtain⟨g,o,rfl,_,hcl⟩:=hr (by omega)
 have hcell0:=hcl k hk
 have HE:=aA (T.quoV_end (l.getD k 0) l)
 have HH:=aA (T.quoV_here (l.getD k 0) l)
 have HO:=aA (T.quoV_on (l.getD k 0) l)
 have HT:=aA (T.quoV_two (l.getD k 0) l)
 have HC:=aA hcl
 clear hcl hr
 generalize l.getD k 0=q at *
 go_enter Try.func89,Try.ntmps89
 go_wp2
 go_loop [1] (fun vi=>∃(j:Nat),j≤l.length+1∧vi=.int .i64 j∧T.quoV q l j=T.quoV q l (k+1)) (fun vi=>l.length+2-(intOf vi).toNat)
 case atStart=>exact⟨k+1,by omega,by go_num,rfl⟩
 case round =>
  clear hcell0
  obtain⟨j,hj,rfl,he⟩:=hrel
  have HV:=aA he
  clear he
  by_cases hlt:j<l.length
  ·have hcell:=HC.out j hlt
   by_cases hz:l.getD j 0=q
   ·have HN:=aA (HH.out j hlt hz)
    have hz':(l.getD j 0==q)=true:=by simpa using hz
    clear hz HE HH HO HT HC
    generalize l.getD j 0=z at *
    go_wp2
    go_ret
    exact⟨zak (by rw[←HV.out,HN.out]),rfl⟩
   ·have hz':(l.getD j 0==q)=false:=by simpa using hz
    by_cases h92:l.getD j 0=92
    ·have HN:=aA (HT.out j hlt hz h92)
     have h92':(l.getD j 0==92)=true:=by simpa using h92
     clear hz h92 HE HH HO HT HC
     generalize l.getD j 0=z at *
     go_wp2
     go_round
     case rel=>exact⟨j+2,by omega,by go_num,by rw[←HV.out,HN.out]⟩
     case measure=>simp[intOf];omega
    ·have HN:=aA (HO.out j hlt hz h92)
     have h92':(l.getD j 0==92)=false:=by simpa using h92
     clear hz h92 HE HH HO HT HC
     generalize l.getD j 0=z at *
     go_wp2
     go_round
     case rel=>exact⟨j+1,by omega,by go_num,by rw[←HV.out,HN.out]⟩
     case measure=>simp[intOf];omega
  ·have HN:=aA (HE.out j (by omega))
   clear HE HH HO HT HC
   go_wp2
   go_ret
   exact⟨zak (by rw[←HV.out,HN.out]),rfl⟩
theorem T.act_quo {f:Nat} {z:Int} {r:List Int} {o:Int} {m:Nat} (h:T.act f (z::r) o=some m) (hz:z=39∨z=34):∃f' q m',T.quoted z r=some q∧T.act f' (r.drop q) o=some m'∧m=m'+(q+1):=by
 cases f with
 | zero=>simp[T.act]at h
 | succ f =>
  rw[T.act]at h
  rw[if_pos hz]at h
  split at h
  ·cases h
  ·rename_i q hq
   rw[Option.map_eq_some_iff]at h
   obtain⟨m',h1,h2⟩:=h
   exact⟨f,q,m',hq,h1,h2.symm⟩
theorem T.act_on {f:Nat} {z:Int} {r:List Int} {o:Int} {m:Nat} (h:T.act f (z::r) o=some m) (hz:¬(z=39∨z=34)) (ho:0<T.ostep z o):∃f' m',T.act f' r (T.ostep z o)=some m'∧m=m'+1:=by
 cases f with
 | zero=>simp[T.act]at h
 | succ f =>
  rw[T.act]at h
  rw[if_neg hz,if_pos ho,Option.map_eq_some_iff]at h
  obtain⟨m',h1,h2⟩:=h
  exact⟨f,m',h1,h2.symm⟩
theorem T.act_end {f:Nat} {z:Int} {r:List Int} {o:Int} {m:Nat} (h:T.act f (z::r) o=some m) (hz:¬(z=39∨z=34)) (ho:¬0<T.ostep z o):m=1:=by
 cases f with
 | zero=>simp[T.act]at h
 | succ f =>
  rw[T.act]at h
  rw[if_neg hz,if_neg ho]at h
  exact(Option.some.inj h).symm
theorem T.act_nil {f:Nat} {o:Int} {m:Nat} (h:T.act f [] o=some m):False:=by
 cases f with
 | zero=>simp[T.act]at h
 | succ f=>rw[T.act]at h;cases h
theorem zc9 (A:Option Addr) (c B:Nat) (l:List Int) (k n f0:Nat) (w:World) (hr:RdB w B A l) (hn:l.length≤5000) (hk:k<l.length) (hz:l.getD k 0=123) (ha:T.act f0 (l.drop k) 0=some n) :
  Calls Try.prog 71 #[.slice A l.length c,.int .i64 k] w fun e w'=>e=.returned (.int .i64 ((k+n:Nat):Int))∧w=w':=by
 have HQ:=aA (fun(j:Nat) (h:j<l.length)=>zc8 A c B l j w hr hn h)
 have HA:=aA ha
 have HZ:=aA hz
 clear ha hz
 go_enter Try.func71,Try.ntmps71
 go_wp2
 go_loop [1,5] (fun vi vo=>∃(j f m:Nat) (o:Int),j≤l.length∧vi=.int .i64 j∧vo=.int .i64 o∧0≤o∧o+k≤j∧T.act f (l.drop j) o=some m∧j+m=k+n∧(o=0→l.getD j 0=123)) (fun vi _=>l.length-(intOf vi).toNat)
 case atStart=>exact⟨k,f0,n,0,by omega,rfl,rfl,by omega,by omega,HA.out,rfl,fun _=>HZ.out⟩
 case round =>
  clear HA HZ
  obtain⟨j,f,m,o,hj,rfl,rfl,ho,hok,hact,hm,h123⟩:=hrel
  have HM:=aA hm
  clear hm
  by_cases hlt:j<l.length
  ·obtain⟨g,o',rfl,_,hcl⟩:=hr (by omega)
   have hcell:=hcl j hlt
   have HQj:=aA (HQ.out j hlt)
   rw[L.cons_drop l j hlt]at hact
   have HACT:=aA hact
   clear hact HQ hcl hr
   have HD:Hid (∀q,(l.drop (j+1)).drop q=l.drop (j+1+q)):=aA (fun q=>by rw[List.drop_drop])
   by_cases hq:l.getD j 0=39∨l.getD j 0=34
   ·obtain⟨f',q,m',h1,h2,h3⟩:=T.act_quo HACT.out hq
    have hql:=T.quoted_le _ _ _ h1
    rw[List.length_drop]at hql
    have hv:T.quoV (l.getD j 0) l (j+1)=((j+1+q:Nat):Int):=by unfold T.quoV;rw[h1];simp only;omega
    rw[hv]at HQj
    rw[HD.out]at h2
    have H2:=aA h2
    have H3:=aA h3
    have ho1:¬o=0:=fun e=>by have:=h123 e;omega
    have ho2:(o==0)=false:=by simpa using ho1
    clear h1 h2 h3 hv HACT h123
    have hqq:(l.getD j 0==123)=false∧(l.getD j 0==125)=false:=by
     rcases hq with e|e <;> rw[e] <;> exact⟨rfl,rfl⟩
    obtain⟨q1,q2⟩:=hqq
    have hpos:0≤((j+1+q:Nat):Int):=by omega
    have hle:j+1+q≤l.length:=by omega
    rcases hq with hq|hq
    ·have q3:(l.getD j 0==39)=true:=by rw[hq];rfl
     clear hq
     generalize l.getD j 0=z at *
     generalize hx:j+1+q=x at *
     have HX:=aA hx
     clear hx
     go_wp2_with fail
     refine HQj.out.mono ?_;rintro _ w' ⟨rfl,rfl⟩
     go_wp2
     go_round
     case rel=>exact⟨x,f',m',o,by omega,rfl,rfl,ho,by have:=HX.out;omega,H2.out,by have:=H3.out;have:=HM.out;have:=HX.out;omega,fun e=>absurd e ho1⟩
     case measure=>have:=HX.out;simp[intOf];omega
    ·have q3:(l.getD j 0==39)=false:=by rw[hq];rfl
     have q4:(l.getD j 0==34)=true:=by rw[hq];rfl
     clear hq
     generalize l.getD j 0=z at *
     generalize hx:j+1+q=x at *
     have HX:=aA hx
     clear hx
     go_wp2_with fail
     refine HQj.out.mono ?_;rintro _ w' ⟨rfl,rfl⟩
     go_wp2
     go_round
     case rel=>exact⟨x,f',m',o,by omega,rfl,rfl,ho,by have:=HX.out;omega,H2.out,by have:=H3.out;have:=HM.out;have:=HX.out;omega,fun e=>absurd e ho1⟩
     case measure=>have:=HX.out;simp[intOf];omega
   ·have q3:(l.getD j 0==39)=false:=by simpa using fun e=>hq (.inl e)
    have q4:(l.getD j 0==34)=false:=by simpa using fun e=>hq (.inr e)
    have HON:=aA (T.act_on HACT.out hq)
    have HEN:=aA (T.act_end HACT.out hq)
    clear HACT hq HQj HD
    by_cases h1:l.getD j 0=123
    ·have q1:(l.getD j 0==123)=true:=by rw[h1];rfl
     have hs:T.ostep (l.getD j 0) o=o+1:=by unfold T.ostep;rw[if_pos h1]
     obtain⟨f',m',h2,h3⟩:=HON.out (by rw[hs];omega)
     rw[hs]at h2
     have H2:=aA h2
     have H3:=aA h3
     clear HON HEN h1 hs h2 h3 h123
     have ho2:(o+1==0)=false:=by rw[beq_eq_false_iff_ne];omega
     generalize l.getD j 0=z at *
     go_wp2
     go_round
     case rel=>exact⟨j+1,f',m',o+1,by omega,by go_num,by go_num,by omega,by omega,H2.out,by have:=H3.out;have:=HM.out;omega,fun e=>by omega⟩
     case measure=>simp[intOf];omega
    ·have q1:(l.getD j 0==123)=false:=by simpa using h1
     have ho1:¬o=0:=fun e=>h1 (h123 e)
     by_cases h5:l.getD j 0=125
     ·have q2:(l.getD j 0==125)=true:=by rw[h5];rfl
      have hs:T.ostep (l.getD j 0) o=o-1:=by unfold T.ostep;rw[if_neg h1,if_pos h5]
      by_cases h0:0<o-1
      ·obtain⟨f',m',h2,h3⟩:=HON.out (by rw[hs];omega)
       rw[hs]at h2
       have H2:=aA h2
       have H3:=aA h3
       clear HON HEN h1 h5 hs h2 h3 h123
       have ho2:(o-1==0)=false:=by rw[beq_eq_false_iff_ne];omega
       generalize l.getD j 0=z at *
       go_wp2
       go_round
       case rel=>exact⟨j+1,f',m',o-1,by omega,by go_num,by go_num,by omega,by omega,H2.out,by have:=H3.out;have:=HM.out;omega,fun e=>by omega⟩
       case measure=>simp[intOf];omega
      ·have hm1:=HEN.out (by rw[hs];omega)
       have H3:=aA hm1
       have ho3:o=1:=by omega
       subst ho3
       clear HON HEN h1 h5 hs hm1 h123 h0 ho1
       generalize l.getD j 0=z at *
       go_wp2
       go_ret
       exact⟨zak (by have:=HM.out;have:=H3.out;omega),rfl⟩
     ·have q2:(l.getD j 0==125)=false:=by simpa using h5
      have hs:T.ostep (l.getD j 0) o=o:=by unfold T.ostep;rw[if_neg h1,if_neg h5]
      obtain⟨f',m',h2,h3⟩:=HON.out (by rw[hs];omega)
      rw[hs]at h2
      have H2:=aA h2
      have H3:=aA h3
      clear HON HEN h1 h5 hs h2 h3 h123
      have ho2:(o==0)=false:=by simpa using ho1
      generalize l.getD j 0=z at *
      go_wp2
      go_round
      case rel=>exact⟨j+1,f',m',o,by omega,by go_num,rfl,by omega,by omega,H2.out,by have:=H3.out;have:=HM.out;omega,fun e=>absurd e ho1⟩
      case measure=>simp[intOf];omega
  ·exfalso
   rw[List.drop_eq_nil_of_le (by omega)]at hact
   exact T.act_nil hact
theorem aU.at {L:List Int} {w:World} {base:Nat} {v:Value} {ds:List Y.Dcl} (h:aU L w base v ds) (i:Nat) (hi:i<ds.length):∃D c A c',v=.slice (some ⟨D,0,none⟩) ds.length c∧w.cell? ⟨D,i*2,none⟩=some (.int .i64 ds[i].k)∧w.cell? ⟨D,i*2+1,none⟩=some (.slice A ds[i].ns.length c')∧RdR L w base A ds[i].ns:=by
 obtain⟨qs,rfl,h2,h3⟩:=h
 have hi':i<qs.length:=by simpa using hi
 rcases h2.2 with⟨_,h0⟩|⟨g,cap,cur,rfl,_⟩
 ·omega
 ·refine⟨g,cap,qs[i].2.1,qs[i].2.2,rfl,?_,?_,?_⟩
  ·have:=World.ownsRow.cells h2 (g:=g) rfl (i*2+0) _ (by rw[zeZ qs i 0 hi' (by omega)];rfl)
   rw[zdr,Nat.zero_add]at this
   simpa using this
  ·have:=World.ownsRow.cells h2 (g:=g) rfl (i*2+1) _ (by rw[zeZ qs i 1 hi' (by omega)];rfl)
   rw[zdr,Nat.zero_add]at this
   simpa using this
  ·have:=h3 qs[i] (List.getElem_mem hi')
   simpa using this
theorem aT.at {L:List Int} {w:World} {base:Nat} {v:Value} {ps:List Y.Prd} (h:aT L w base v ps) (i:Nat) (hi:i<ps.length):∃D c A c',v=.slice (some ⟨D,0,none⟩) ps.length c∧(∀j u,j<5→(aL L ps[i] A c')[j]?=some u→w.cell? ⟨D,i*5+j,none⟩=some u)∧RdR L w base A ps[i].r:=by
 obtain⟨qs,rfl,h2,h3⟩:=h
 have hi':i<qs.length:=by simpa using hi
 rcases h2.2 with⟨_,h0⟩|⟨g,cap,cur,rfl,_⟩
 ·omega
 ·refine⟨g,cap,qs[i].2.1,qs[i].2.2,rfl,fun j u hj hu=>?_,?_⟩
  ·have:=World.ownsRow.cells h2 (g:=g) rfl (i*5+j) u (by rw[zgg L qs i j hi' hj];simpa using hu)
   rw[zdr,Nat.zero_add]at this
   exact this
  ·have:=h3 qs[i] (List.getElem_mem hi')
   simpa using this
namespace Y
end Y
def tmC (t:Gm.Tm):List Value:=[.string (K.str t.nm),.int .i64 t.lv,.int .i64 t.wy]
def zeh (ts:List Gm.Tm):List Value:=ts.flatMap tmC
def zho (ns:List (List Int)):List Value:=ns.map fun s=>.string (K.str s)
abbrev RA:=Gm.Rl×Option Addr×Nat
def rlC (q:RA):List Value:=[.int .i64 q.1.l,.slice q.2.1 q.1.r.length q.2.2,.int .i64 q.1.p]
def zhk (qs:List RA):List Value:=qs.flatMap rlC
theorem zbl {α:Type} (f:α→List Value) (hf:∀x,(f x).length=3) (xs:List α) (i j:Nat) (hi:i<xs.length) (hj:j<3):(xs.flatMap f)[i*3+j]?=(f xs[i])[j]?:=by
 induction xs generalizing i with
 | nil=>simp at hi
 | cons x r ih =>
  rw[List.flatMap_cons]
  have hl:=hf x
  cases i with
  | zero=>rw[List.getElem?_append_left (by omega)];simp
  | succ i =>
   rw[List.getElem?_append_right (by omega),hl,show(i+1)*3+j-3=i*3+j by omega]
   simpa using ih i (by simpa using hi)
def zaI (w:World) (base:Nat) (v:Value) (ts:List Gm.Tm):Prop:=w.ownsRow base 90 3 v ts.length (zeh ts)
def a7 (w:World) (base:Nat) (v:Value) (ns:List (List Int)):Prop:=w.ownsRow base 9 1 v ns.length (zho ns)
def zcA (w:World) (base N:Nat) (A:Option Addr) (zs:List Int):Prop :=
 zs.length≠0→∃(g:Nat) (cur:Array Value),A=some ⟨g,0,none⟩∧base≤g∧g<N∧w.heap[g]?=some (.cells cur 3 (0,0))∧∀j (h:j<zs.length),cur[j]?=some (.int .i64 zs[j])
def za1 (w:World) (base N:Nat) (v:Value) (rs:List Gm.Rl):Prop :=
 ∃qs:List RA,qs.map (·.1)=rs∧w.ownsRow base 42 3 v rs.length (zhk qs)∧(∀k,v.ownBlock=some k→k<N)∧∀q∈qs,q.1.r.length≤q.2.2∧q.2.2≤9223372036854775807∧zcA w base N q.2.1 q.1.r
theorem zaI.nil (w:World) (base:Nat):zaI w base (.slice none 0 0) []:=World.ownsRow_nil w base _ _
theorem a7.nil (w:World) (base:Nat):a7 w base (.slice none 0 0) []:=World.ownsRow_nil w base _ _
theorem za1.nil (w:World) (base N:Nat):za1 w base N (.slice none 0 0) []:=⟨[],rfl,World.ownsRow_nil w base _ _,(by intro k h;cases h),(by intro q h;cases h)⟩
theorem zab {w:World} {base:Nat} {e:TypeId} {size n:Nat} {v:Value} {xs:List Value} (h:w.ownsRow base e size v n xs):∃A c,v=.slice A n c∧n≤c∧c≤maxLen:=by
 rcases h.2 with⟨rfl,h0⟩|⟨g,cap,cur,rfl,hb,hg,hn,hm,hs,ht⟩
 ·exact⟨none,0,by rw[h0],by omega,by unfold maxLen;omega⟩
 ·exact⟨_,cap,rfl,hn,hm⟩
theorem zaB {w:World} {base:Nat} {e:TypeId} {size n:Nat} {v:Value} {xs:List Value} (h:w.ownsRow base e size v n xs):∃A m c,v=.slice A m c:=by
 obtain⟨A,c,rfl,_⟩:=zab h
 exact⟨A,n,c,rfl⟩
theorem zac {w:World} {base:Nat} {e:TypeId} {size n:Nat} {v:Value} {xs:List Value} (h:w.ownsRow base e size v n xs) {g:Nat} {o:Obj} (hg:w.heap[g]?=some o) (ho:∀cur,o ≠ .cells cur e (0,0)):v.ownBlock=none∨v.ownBlock≠some g:=by
 rcases h.2 with⟨rfl,_⟩|⟨g',cap,cur,rfl,_,hg',_⟩
 ·exact .inl rfl
 ·refine .inr fun e1=>?_
  injection e1 with e1
  have e1:g'=g:=e1
  subst e1
  rw[hg]at hg'
  injection hg' with hg'
  exact ho _ hg'
theorem aH {w:World} {base:Nat} {e:TypeId} {size n:Nat} {v:Value} {xs:List Value} (h:w.ownsRow base e size v n xs) {k:Nat} (hk:v.ownBlock=some k):base≤k∧∃cur,w.heap[k]?=some (.cells cur e (0,0)):=by
 rcases h.2 with⟨rfl,_⟩|⟨g',cap,cur,rfl,hb,hg',_⟩
 ·cases hk
 ·injection hk with hk
  have hk:g'=k:=hk
  subst hk
  exact⟨hb,cur,hg'⟩
theorem zcA.grown {w w':World} {base N:Nat} {A:Option Addr} {zs:List Int} {row:Option Nat} (h:zcA w base N A zs) (hg:w.grownBy w' row) (hr:∀g,row=some g→(∀cur,w.heap[g]? ≠ some (.cells cur 3 (0,0)))∨N≤g):zcA w' base N A zs:=fun hn=>by
 obtain⟨g,cur,e,hb,hN,hh,hc⟩:=h hn
 refine⟨g,cur,e,hb,hN,(hg.block g (Array.getElem?_eq_some_iff.1 hh).1 (fun e=>?_)).trans hh,hc⟩
 rcases hr g e.symm with q|q
 ·exact q _ hh
 ·omega
theorem zcA.more {w:World} {base N N':Nat} {A:Option Addr} {zs:List Int} (h:zcA w base N A zs) (hN:N≤N'):zcA w base N' A zs:=fun hn=>by
 obtain⟨g,cur,e,hb,h1,hh⟩:=h hn
 exact⟨g,cur,e,hb,by omega,hh⟩
theorem za1.grown {w w':World} {base N:Nat} {v:Value} {rs:List Gm.Rl} {row:Option Nat} (h:za1 w base N v rs) (hg:w.grownBy w' row) (hr:∀g,row=some g→((∀cur,w.heap[g]? ≠ some (.cells cur 3 (0,0)))∧(∀cur,w.heap[g]? ≠ some (.cells cur 42 (0,0))))∨N≤g):za1 w' base N v rs:=by
 obtain⟨qs,h1,h2,h3,h4⟩:=h
 refine⟨qs,h1,h2.kept hg ?_,h3,fun q hq=>⟨(h4 q hq).1,(h4 q hq).2.1,(h4 q hq).2.2.grown hg fun g e=>?_⟩⟩
 ·rcases hv:v.ownBlock with _|k
  ·exact .inl rfl
  ·refine .inr fun e=>?_
   rcases hr k e.symm with q|q
   ·obtain⟨_,cur,hc⟩:=aH h2 hv
    exact q.2 _ hc
   ·have:=h3 k hv;omega
 ·rcases hr g e with q|q
  ·exact .inl q.1
  ·exact .inr q
theorem za1.more {w:World} {base N N':Nat} {v:Value} {rs:List Gm.Rl} (h:za1 w base N v rs) (hN:N≤N'):za1 w base N' v rs:=by
 obtain⟨qs,h1,h2,h3,h4⟩:=h
 exact⟨qs,h1,h2,fun k hk=>by have:=h3 k hk;omega,fun q hq=>⟨(h4 q hq).1,(h4 q hq).2.1,(h4 q hq).2.2.more hN⟩⟩
def soS:Option Tok→ByteArray|none=>⟨#[]⟩|some x=>K.str x.t
def soX (L:List Int):Option Tok→Nat|none=>0|some x=>Fl.fl (Pl.pos (L.take x.o)).1
def soY (L:List Int):Option Tok→Nat|none=>0|some x=>Fl.fl (Pl.pos (L.take x.o)).2
theorem zal {w:World} {g:Nat} {cs:Array Value} {T T':TypeId} (h:w.heap[g]?=some (.cells cs T (0,0))) (hT:T≠T') (cur:Array Value):w.heap[g]? ≠ some (.cells cur T' (0,0)):=by
 rw[h];intro e;injection e with e;injection e with _ e;exact hT e
theorem zbF (v:Value):v.ownBlock=none∨v.ownBlock≠(none:Option Nat):=by
 rcases v.ownBlock with _|k
 ·exact .inl rfl
 ·exact .inr (by simp)
section
variable {w w':World} {B N R:Nat} {cs:Array Value} {vT vN vR:Value} {ts:List Gm.Tm} {ns:List (List Int)} {rs:List Gm.Rl} {Ms Mt:Nat} {ml tl:List (List Int×Value)} {row:Option Nat}
theorem za2 {e e':TypeId} {size size' n n' base base':Nat} {v u:Value} {xs ys:List Value} (h:w.ownsRow base e size v n xs) (k:w.ownsRow base' e' size' u n' ys) (he:e≠e'):v.ownBlock=none∨v.ownBlock≠u.ownBlock:=by
 rcases hu:u.ownBlock with _|g
 ·exact zbF _
 ·obtain⟨_,cur,hc⟩:=aH k hu
  exact zac h hc (fun cur' q=>by injection q with _ q;exact he q.symm)
theorem zaM {e T:TypeId} {size n base g:Nat} {u:Value} {ys:List Value} (hb:w.heap[g]?=some (.cells cs T (0,0))) (k:w.ownsRow base e size u n ys) (he:T≠e) (hg:w.grownBy w' u.ownBlock):w'.heap[g]?=some (.cells cs T (0,0)):=by
 refine(hg.block g (Array.getElem?_eq_some_iff.1 hb).1 (fun q=>?_)).trans hb
 obtain⟨_,cur,hc⟩:=aH k q.symm
 exact zal hb he _ hc
end
theorem zgR:(Try.prog.info? 90).map (fun i=>(i.zero,i.size,i.bytes))=some (some (.agg #[.string ⟨#[]⟩,.int .i64 0,.int .i64 0]),3,32):=by kernel_rfl
theorem zgX:(Try.prog.info? 9).map (fun i=>(i.zero,i.size,i.bytes))=some (some (.string ⟨#[]⟩),1,16):=by kernel_rfl
theorem zgT:(Try.prog.info? 42).map (fun i=>(i.zero,i.size,i.bytes))=some (some (.agg #[.int .i64 0,.slice none 0 0,.int .i64 0]),3,40):=by kernel_rfl
theorem aI (w:World) (l:List Value) (T:TypeId) (j:Nat):(w.alloc (.cells l.toArray T)).cell? ⟨w.heap.size,j,none⟩=l[j]?:=by
 rw[cell_of_row _ _ j _ _ _ (heap_alloc_new w _)]
 simp
section
variable {w w':World} {B N R:Nat} {cs:Array Value} {vT vN vR:Value} {ts:List Gm.Tm} {ns:List (List Int)} {rs:List Gm.Rl} {Ms Mt:Nat} {ml tl:List (List Int×Value)}
end
end Go.Proofs.Ytcgclkndkahgaaa
namespace Go.Proofs.Ytcgclkndkahgaaa
set_option maxRecDepth 100000
set_option maxHeartbeats 40000000
open Go.RowKit
theorem aK.set_away {w:World} {base g:Nat} {v:Value} {xs:List Int} {cs:Array Value} (h:aK w base v xs) (hg:w.heap[g]?=some (.cells cs 42 (0,0))) (j:Nat) (u:Value):aK (w.setCell ⟨g,j,none⟩ u) base v xs :=
 World.ownsRow.kept h (aD (World.grownBy.refl _ _) j u) (zac h hg (fun cur e=>by injection e with _ e;cases e))
theorem zbi (w:World) (base:Nat):aK w base (.slice none 0 0) []:=aK.nil w base
def grC:Array Value:=#[.slice none 0 0,.slice none 0 0,.slice none 0 0,.int .i64 0]
end Go.Proofs.Ytcgclkndkahgaaa
