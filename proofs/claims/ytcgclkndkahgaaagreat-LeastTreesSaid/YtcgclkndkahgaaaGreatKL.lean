/- Part of the proofs over this program: LeastD, LsRef3, LsRef4, ApI, LsRef5. -/
import Derived.Test.YtcgclkndkahgaaaGreatKK
namespace Go.Proofs.YtcgclkndkahgaaaGreat
set_option maxRecDepth 100000
set_option maxHeartbeats 40000000
namespace Gm
def zbb (s t:Nat×Nat):Nat×Nat:=(min 1000 (s.1+t.1),min 1000 (s.2+t.2))
def szFD (S:List (Nat×Nat)) (l:List Int):Nat×Nat:=l.foldl (fun s z=>zbb s (szOf S z)) (0,0)
theorem szFD_take {S:List (Nat×Nat)} {l:List Int} {k:Nat} (h:k<l.length):szFD S (l.take (k+1))=zbb (szFD S (l.take k)) (szOf S l[k]):=by
 unfold szFD
 rw[List.take_succ_eq_append_getElem h,List.foldl_append];rfl
theorem szFD_le (S:List (Nat×Nat)) (l:List Int):(szFD S l).1≤1000∧(szFD S l).2≤1000:=by
 unfold szFD
 rcases List.eq_nil_or_concat l with rfl|⟨a,b,rfl⟩
 ·simp
 ·rw[List.concat_eq_append,List.foldl_append]
  show(zbb _ _).1≤1000∧(zbb _ _).2≤1000
  unfold zbb
  simp only[]
  omega
def szCD (G:Gr) (l:List Int):Nat×Nat:=(min 1000 (ltree G l).length,min 1000 (lword G l).length)
theorem zeF {G:Gr} (h:Ok G) {S:List (Nat×Nat)} {l:List Int} (hp:Pr G l) (hS:∀z∈l,z<0→S.getD (-1-z).toNat (0,0)=szCD G [z]):∀k,k≤l.length→szFD S (l.take k)=szCD G (l.take k):=by
 intro k
 induction k with
 | zero =>
  intro _
  unfold szCD
  rw[List.take_zero,ltree_nil G h,lword_nil G h];rfl
 | succ k ih =>
  intro hk
  have hlt:k<l.length:=by omega
  have hz:=List.getElem_mem hlt
  rw[szFD_take hlt,ih (by omega)]
  have e:szOf S l[k]=szCD G [l[k]]:=by
   unfold szOf
   by_cases h0:l[k]<0
   ·rw[if_pos h0];exact hS _ hz h0
   ·rw[if_neg h0]
    unfold szCD
    rw[ltree_term h h0,lword_term h h0];rfl
  rw[e]
  unfold szCD zbb
  rw[ltree_take h hp hlt,lword_take h hp hlt,List.length_append,List.length_append]
  simp only[Prod.mk.injEq]
  omega
theorem zeG {G:Gr} (h:Ok G) {S:List (Nat×Nat)} {l:List Int} (hp:Pr G l) (hS:∀z∈l,z<0→S.getD (-1-z).toNat (0,0)=szCD G [z]):szFD S l=szCD G l:=by
 have:=zeF h hp hS l.length (Nat.le_refl _)
 rwa [List.take_length]at this
theorem zfL {G:Gr} (h:Ok G) {z:Int} (hz:z<0) (hp:Gn true G.rs (-1-z)):szCD G [z]=zbb (1,0) (szCD G (lrt G z)):=by
 unfold szCD zbb
 rw[ltree_non h hz hp,lword_non h hz hp,List.length_cons]
 simp only[Prod.mk.injEq]
 omega
theorem szCD_le {G:Gr} {l:List Int}:(szCD G l).1≤300↔(ltree G l).length≤300:=by unfold szCD;simp only[];omega
theorem szCD_le2 {G:Gr} {l:List Int}:(szCD G l).2≤60↔(lword G l).length≤60:=by unfold szCD;simp only[];omega
noncomputable def szND (G:Gr) (j:Nat):Nat×Nat:=@ite _ (Gn true G.rs (j:Int)) (Classical.propDecidable _) (szCD G [-1-(j:Int)]) (0,0)
noncomputable def szLD (G:Gr):List (Nat×Nat):=(List.range G.ns.length).map (szND G)
theorem szLD_len {G:Gr}:(szLD G).length=G.ns.length:=by unfold szLD;simp
theorem szLD_at {G:Gr} {j:Nat} (hj:j<G.ns.length):(szLD G).getD j (0,0)=szND G j:=by
 unfold szLD
 rw[List.getD_eq_getElem?_getD,List.getElem?_map,List.getElem?_range hj];rfl
theorem zeE (G:Gr) (j:Nat):(szND G j).1≤1000∧(szND G j).2≤1000:=by
 unfold szND
 split
 ·unfold szCD;simp only[];omega
 ·simp
theorem szLD_le (G:Gr) (i:Nat):((szLD G).getD i (0,0)).1≤1000∧((szLD G).getD i (0,0)).2≤1000:=by
 rcases Nat.lt_or_ge i G.ns.length with hi|hi
 ·rw[szLD_at hi];exact zeE G i
 ·rw[List.getD_eq_getElem?_getD,List.getElem?_eq_none (by rw[szLD_len];exact hi)];simp
def done (G:Gr) (k m j:Nat):Prop:=0<(hts G).getD j 0∧((hts G).getD j 0<k∨(hts G).getD j 0=k∧j<m)
structure KnD (G:Gr) (k m:Nat) (S:List (Nat×Nat)):Prop where
 n:S.length=G.ns.length
 y:∀j,done G k m j→S.getD j (0,0)=szND G j
 no:∀j,¬done G k m j→S.getD j (0,0)=(0,0)
theorem KnD.zero (G:Gr):KnD G 1 0 (List.replicate G.ns.length (0,0)):=by
 refine⟨by simp,fun j hj=>?_,fun j _=>?_⟩
 ·obtain⟨h1,h2⟩:=hj;omega
 ·rw[List.getD_eq_getElem?_getD,List.getElem?_replicate]
  split <;> rfl
theorem KnD.skip {G:Gr} {k m:Nat} {S:List (Nat×Nat)} (x:KnD G k m S) (h:(hts G).getD m 0≠k):KnD G k (m+1) S:=by
 have e:∀j,done G k (m+1) j↔done G k m j:=fun j=>by
  unfold done
  by_cases hj:j=m
  ·subst hj;omega
  ·omega
 exact⟨x.n,fun j hj=>x.y j ((e j).1 hj),fun j hj=>x.no j (fun h=>hj ((e j).2 h))⟩
theorem KnD.put {G:Gr} {k m:Nat} {S:List (Nat×Nat)} (x:KnD G k m S) (hk:0<k) (h:(hts G).getD m 0=k) (hm:m<G.ns.length) {s:Nat×Nat} (hs:s=szND G m):KnD G k (m+1) (S.set m s):=by
 refine⟨by rw[List.length_set,x.n],fun j hj=>?_,fun j hj=>?_⟩
 ·rw[gD_set _ _ _ _ _ (by rw[x.n];exact hm)]
  by_cases e:m=j
  ·subst e;rw[if_pos rfl];exact hs
  ·rw[if_neg e]
   refine x.y j ?_
   unfold done at hj ⊢
   omega
 ·have e:m≠j:=fun e=>hj (by subst e;exact⟨by omega,.inr ⟨h,by omega⟩⟩)
  rw[gD_set _ _ _ _ _ (by rw[x.n];exact hm),if_neg e]
  exact x.no j fun h2=>hj (by unfold done at h2 ⊢;omega)
theorem KnD.up {G:Gr} {k:Nat} {S:List (Nat×Nat)} (x:KnD G k G.ns.length S):KnD G (k+1) 0 S:=by
 have hn:∀j,0<(hts G).getD j 0→j<G.ns.length:=fun j h=>by
  rcases Nat.lt_or_ge j G.ns.length with h1|h1
  ·exact h1
  ·rw[List.getD_eq_getElem?_getD,List.getElem?_eq_none (by rw[hts_len];exact h1)]at h;simp at h
 have e:∀j,done G (k+1) 0 j↔done G k G.ns.length j:=fun j=>by
  unfold done
  constructor
  ·rintro⟨h1,h2⟩
   have:=hn j h1
   omega
  ·rintro⟨h1,h2⟩
   omega
 exact⟨x.n,fun j hj=>x.y j ((e j).1 hj),fun j hj=>x.no j (fun h=>hj ((e j).2 h))⟩
theorem KnD.all {G:Gr} (h:Ok G) {S:List (Nat×Nat)} (x:KnD G (G.ns.length+1) 0 S):S=szLD G:=by
 refine zd0 (u:=(0,0)) (by rw[x.n,szLD_len]) fun j hj=>?_
 rw[x.n]at hj
 rw[szLD_at hj]
 by_cases hp:Gn true G.rs (j:Int)
 ·exact x.y j ⟨hts_pos h hp,.inl (by have:=hts_le h j;omega)⟩
 ·rw[x.no j (fun hd=>by have:=zfl h hj hp;unfold done at hd;omega)]
  unfold szND
  rw[if_neg hp]
theorem KnD.le {G:Gr} {k m:Nat} {S:List (Nat×Nat)} (x:KnD G k m S) (j:Nat):(S.getD j (0,0)).1≤1000∧(S.getD j (0,0)).2≤1000:=by
 by_cases h:done G k m j
 ·rw[x.y j h];exact zeE G j
 ·rw[x.no j h];simp
theorem KnD.ready {G:Gr} (h:Ok G) {k m:Nat} {S:List (Nat×Nat)} (x:KnD G k m S) (hk:0<k) (hm:(hts G).getD m 0=k) (hn:m<G.ns.length):∃i,∃hi:i<G.rs.length,(best G (hts G)).getD m 0=(i:Int)∧zbb (1,0) (szFD S G.rs[i].r)=szND G m∧∀z∈G.rs[i].r,z<0→-1-z<(G.ns.length:Int):=by
 have hp:Gn true G.rs (m:Int):=((hgt_hi h).p m hn).1 (by rw[show hiN G.rs G.ns.length (List.replicate G.ns.length 0)=hts G from rfl];omega)
 obtain⟨i,hi,e1,_,e3,_⟩:=best_i h hp
 have hz:(-1-(m:Int))<0:=by omega
 have hp2:Gn true G.rs (-1-(-1-(m:Int))):=by rw[show -1-(-1-(m:Int))=(m:Int) by omega];exact hp
 have hl:=lrt_of h hz hp2
 rw[e3,show(-1-(-1-(m:Int))).toNat=m by omega]at hl
 refine⟨i,hi,e1,?_,fun z hz hn=>((hl.1 z hz hn).lin h.lin).2⟩
 rw[zeG h hl.1 fun z hz hn=>?_]
 ·unfold szND
  rw[if_pos hp,zfL h (by omega) hp2,e3]
 ·have h1:=hl.1 z hz hn
  have h2:=h1.lin h.lin
  have h3:=hts_pos h (j:=(-1-z).toNat) (by rw[Int.toNat_of_nonneg (by omega)];exact h1)
  have h4:=topH_le.1 (Nat.le_refl (topH (hts G) G.rs[i].r)) z hz hn
  rw[x.y _ ⟨h3,.inl (by omega)⟩]
  unfold szND
  rw[if_pos (by rw[Int.toNat_of_nonneg (by omega)];exact h1),Int.toNat_of_nonneg (by omega),show -1-(-1-z)=z by omega]
theorem szLD_of {G:Gr} (h:Ok G) {l:List Int} (hp:Pr G l):szFD (szLD G) l=szCD G l:=zeG h hp fun z hz hn=>by
 have h1:=hp z hz hn
 have h2:=h1.lin h.lin
 rw[szLD_at (by omega)]
 unfold szND
 rw[if_pos (by rw[Int.toNat_of_nonneg (by omega)];exact h1),Int.toNat_of_nonneg (by omega),show -1-(-1-z)=z by omega]
end Gm
end Go.Proofs.YtcgclkndkahgaaaGreat
namespace Go.Proofs.YtcgclkndkahgaaaGreat
set_option maxRecDepth 100000
set_option maxHeartbeats 40000000
open Go.RowKit
theorem zcZ (a b c d:Nat) (w:World) (ha:a≤1000000) (hb:b≤1000000) (hc:c≤1000000) (hd:d≤1000000) :
  Calls Tryz.prog 51 #[.agg #[.int .i64 a,.int .i64 b],.agg #[.int .i64 c,.int .i64 d]] w fun e w'=>e=.returned (.agg #[.int .i64 ((min 1000 (a+c):Nat):Int),.int .i64 ((min 1000 (b+d):Nat):Int)])∧Below w.heap.size w w':=by
 obtain⟨s,hs⟩:∃s:Nat,s=a+c:=⟨_,rfl⟩
 obtain⟨t,ht⟩:∃t:Nat,t=b+d:=⟨_,rfl⟩
 have hw1:IntKind.i64.wrap ((a:Int)+(c:Int))=(s:Int):=by rw[IntWalk.i64_in _ (by omega)];omega
 have hw2:IntKind.i64.wrap ((b:Int)+(d:Int))=(t:Int):=by rw[IntWalk.i64_in _ (by omega)];omega
 have hm1:min 1000 (s:Int)=((min 1000 s:Nat):Int):=by omega
 have hm2:min 1000 (t:Int)=((min 1000 t:Nat):Int):=by omega
 rw[←hs,←ht]
 clear hs ht ha hb hc hd
 generalize min 1000 s=m at *
 generalize min 1000 t=n at *
 have HB0:=aA (fun(o1 o2 o3:Obj)=>(((Below.refl w.heap.size w).alloc (Nat.le_refl _) o1).alloc (by simp) o2).alloc (by simp;omega) o3)
 have HRS:=aA (fun(w:World)=>show w.heap.size+1+1=((w.alloc (.cells #[.int .i64 a,.int .i64 b] 57)).alloc (.cells #[.int .i64 c,.int .i64 d] 57)).heap.size by simp)
 go_enter Tryz.func51,Tryz.ntmps51
 go_wp2
 have hb:=heap_alloc_new ((w.alloc (.cells #[.int .i64 a,.int .i64 b] 57)).alloc (.cells #[.int .i64 c,.int .i64 d] 57)) (.cells #[.int .i64 m,.int .i64 n] 57)
 rw[←HRS.out]at hb
 have g0:=cell_of_row _ _ 0 _ _ _ hb
 have g1:=cell_of_row _ _ 1 _ _ _ hb
 refine bodyPost_ret (v:=.agg #[.int .i64 m,.int .i64 n]) (by simp[results,Tryz.results51,go_sem,g0,g1]) rfl ?_
 exact⟨rfl,HB0.out _ _ _⟩
structure SzD (w wr:World) (a b:Nat):Prop where
 rb:wr.heap[w.heap.size]?=some (.cells #[.int .i64 0,.int .i64 0] 57 (0,0))
 sb:wr.heap[w.heap.size+1]?=some (.cells #[.int .i64 (a:Int),.int .i64 (b:Int)] 57 (0,0))
 be:Below w.heap.size w wr
section
variable {w wr wt:World} {a b:Nat}
theorem SzD.lt (h:SzD w wr a b):w.heap.size+2≤wr.heap.size:=by have:=(Array.getElem?_eq_some_iff.1 h.sb).1;omega
theorem SzD.on (h:SzD w wr a b) (k:Below wr.heap.size wr wt):SzD w wt a b:=by
 have:=h.lt
 exact⟨(k.block _ (by omega)).trans h.rb,(k.block _ (by omega)).trans h.sb,h.be.trans (k.mono (by omega))⟩
theorem SzD.set (h:SzD w wr a b) (c d:Nat):SzD w ((wr.setCell ⟨w.heap.size+1,0,none⟩ (.int .i64 (c:Int))).setCell ⟨w.heap.size+1,1,none⟩ (.int .i64 (d:Int))) c d:=by
 have h1:=h.sb
 refine⟨?_,heap_setCell_same _ _ 1 _ _ _ (heap_setCell_same wr _ 0 _ _ _ h1),(h.be.setCell (p:=⟨w.heap.size+1,0,none⟩) (by simp only;omega) _).setCell (p:=⟨w.heap.size+1,1,none⟩) (by simp only;omega) _⟩
 exact(Below.heap_setCell _ _ _ _ (by simp only;omega)).trans ((Below.heap_setCell _ _ _ _ (by simp only;omega)).trans h.rb)
theorem SzD.off {w wr:World} (c d:Nat) {g:Nat} (hg:g<w.heap.size):((wr.setCell ⟨w.heap.size+1,0,none⟩ (.int .i64 (c:Int))).setCell ⟨w.heap.size+1,1,none⟩ (.int .i64 (d:Int))).heap[g]?=wr.heap[g]? :=
 (Below.heap_setCell _ ⟨w.heap.size+1,1,none⟩ _ g (show g≠w.heap.size+1 by omega)).trans (Below.heap_setCell _ ⟨w.heap.size+1,0,none⟩ _ g (show g≠w.heap.size+1 by omega))
theorem SzD.start (w:World):SzD w ((w.alloc (.cells #[.int .i64 0,.int .i64 0] 57)).alloc (.cells #[.int .i64 0,.int .i64 0] 57)) 0 0:=by
 have e1:(w.alloc (.cells #[.int .i64 0,.int .i64 0] 57)).heap.size=w.heap.size+1:=by simp
 have b1:=heap_alloc_new w (.cells #[.int .i64 0,.int .i64 0] 57)
 have b2:=heap_alloc_new (w.alloc (.cells #[.int .i64 0,.int .i64 0] 57)) (.cells #[.int .i64 0,.int .i64 0] 57)
 rw[e1]at b2
 exact⟨(Below.heap_alloc _ _ _ (by rw[e1];omega)).trans b1,b2,((Below.refl w.heap.size w).alloc (Nat.le_refl _) _).alloc (by simp) _⟩
end
theorem zcY (l:List Int) (S:List (Nat×Nat)) (A A2:Option Addr) (c c2 n B B2:Nat) (w:World) (hr:RdI w B A l) (hB:B≤w.heap.size) (h2:RdQ 2 szc w B2 A2 S) (hB2:B2≤w.heap.size) (hin:∀z∈l,Gm.In z) (hs:∀z∈l,z<0→-1-z<(S.length:Int)) (hb:∀j,(S.getD j (0,0)).1≤1000∧(S.getD j (0,0)).2≤1000) (hn:n=S.length) (hl:l.length≤1000000) :
  Calls Tryz.prog 35 #[.slice A l.length c,.slice A2 n c2] w fun e w'=>e=.returned (.agg #[.int .i64 ((Gm.szFD S l).1:Int),.int .i64 ((Gm.szFD S l).2:Int)])∧Below w.heap.size w w':=by
 have HS0:=aA (SzD.start w)
 obtain⟨w1,hw1⟩:∃y,y=(w.alloc (.cells #[.int .i64 0,.int .i64 0] 57)).alloc (.cells #[.int .i64 0,.int .i64 0] 57):=⟨_,rfl⟩
 rw[←hw1]at HS0
 have HR:=aA hr
 have HB:=aA hB
 have HQ:=aA h2
 have HB2:=aA hB2
 have HIN:=aA hin
 have HSN:=aA (fun z (hz:z∈l) (h:z<0)=>(show ∃m:Nat,-1-z=(m:Int)∧m<S.length from⟨(-1-z).toNat,by omega,by have:=hs z hz h;omega⟩))
 have HSB:=aA hb
 have HN:=aA hn
 have HTK:=aA (fun k (h:k<l.length)=>Gm.szFD_take (S:=S) h)
 have HLE:=aA (Gm.szFD_le S)
 have HAN:=aA (fun a b c d w ha hb hc hd=>zcZ a b c d w ha hb hc hd)
 have hlen:(l.length:Int)≤9223372036854775807:=by omega
 have HBZ:∀w:World,(Instr.build 57 #[]).run Tryz.prog w=.ok (.agg #[.int .i64 0,.int .i64 0]) w:=fun w=>run_build w 57 _ _ (by kernel_rfl)
 clear hr hB h2 hB2 hin hs hb hn hl
 go_enter Tryz.func35,Tryz.ntmps35
 go_upto_region 2 with fail
 rw[←hw1]
 clear hw1
 go_wp2
 go_loopw [6] (fun vi wr=>∃(k a b:Nat),k≤l.length∧vi=.int .i64 k∧Hid ((a,b)=Gm.szFD S (l.take k))∧Hid (SzD w wr a b)) (fun vi _=>l.length-(intOf vi).toNat)
 case atStart=>exact⟨0,0,0,Nat.zero_le _,rfl,aA (by simp[Gm.szFD]),HS0⟩
 case round =>
  clear HS0
  obtain⟨k,a,b,hk,rfl,HK,HW⟩:=hrel
  have hd:w.heap.size+2≤wr.heap.size:=HW.out.lt
  by_cases hlt:k<l.length
  ·obtain⟨g,o,rfl,hgb,hc⟩:=HR.out (by omega)
   have hgw:g<w.heap.size:=Nat.lt_of_lt_of_le hgb HB.out
   have kc:=(HW.out.be.cell (p:=⟨g,o+k,none⟩) hgw).trans (hc k hlt)
   rw[L.gd_lt hlt]at kc
   have hmz:=List.getElem_mem hlt
   have hzi:=HIN.out _ hmz
   have HSz:=aA (fun(h:l[k]<0)=>HSN.out l[k] hmz h)
   have HT:=aA (HTK.out k hlt)
   rw[←HK.out]at HT
   have hab:a≤1000∧b≤1000:=by have:=HLE.out (l.take k);rw[←HK.out]at this;exact this
   have HAB:=aA hab
   clear hc hmz hab
   unfold Gm.In at hzi
   generalize l[k]=z at *
   by_cases h0:z<0
   ·obtain⟨m,he,hmn⟩:=HSz.out h0
    obtain⟨g2,o2,rfl,hg2,hc2⟩:=HQ.out (by omega)
    have hg2w:g2<w.heap.size:=Nat.lt_of_lt_of_le hg2 HB2.out
    have hSm:=HSB.out m
    have hmN:(m:Int)<(n:Int):=by have:=HN.out;omega
    have hc0:=hc2 m hmn 0 _ rfl
    rw[Nat.add_zero]at hc0
    have hc1:=hc2 m hmn 1 _ rfl
    have ez:Gm.szOf S z=S.getD m (0,0):=by unfold Gm.szOf;rw[if_pos h0,he,Int.toNat_natCast]
    have es:S.getD m (0,0)=S[m]:=by simp[List.getD_eq_getElem?_getD,hmn]
    rw[ez]at HT
    rw[←es]at hc0 hc1
    have d0:decide (0≤z)=false:=decide_eq_false (by omega)
    have dw:IntKind.i64.wrap (-1-z)=(m:Int):=by rw[IntWalk.i64_in _ (by omega)];exact he
    generalize S.getD m (0,0)=sm at *
    obtain⟨c1,d1⟩:=sm
    have HAN2:=aA (fun y=>HAN.out a b c1 d1 y (by have:=HAB.out;omega) (by have:=HAB.out;omega) (by have:=hSm.1;simp only at this;omega) (by have:=hSm.2;simp only at this;omega))
    have HT2:Hid ((min 1000 (a+c1),min 1000 (b+d1))=Gm.szFD S (l.take (k+1))):=aA HT.out.symm
    generalize min 1000 (a+c1)=a2 at *
    generalize min 1000 (b+d1)=b2 at *
    have k0:=fun y:OnP [g,g2] wr=>(y.cell (p:=⟨g,o+k,none⟩) (by simp)).trans kc
    have u0:=fun y:OnP [g,g2] wr=>(y.cell (p:=⟨g2,o2+m*2,none⟩) (by simp)).trans ((HW.out.be.cell (p:=⟨g2,o2+m*2,none⟩) hg2w).trans hc0)
    have u1:=fun y:OnP [g,g2] wr=>(y.cell (p:=⟨g2,o2+m*2+1,none⟩) (by simp)).trans ((HW.out.be.cell (p:=⟨g2,o2+m*2+1,none⟩) hg2w).trans hc1)
    have HON:Hid (∀x,x.heap[g]?=wr.heap[g]?→x.heap[g2]?=wr.heap[g2]?→∃y:OnP [g,g2] wr,x=y.1):=aA (fun x h1 h2=>⟨⟨x,fun q hg=>by simp at hg;rcases hg with rfl|rfl;exact h1;exact h2⟩,rfl⟩)
    have HOB:Hid (∀x,Below wr.heap.size wr x→∃y:OnP [g,g2] wr,x=y.1):=aA (fun x h=>HON.out x (h.block _ (by omega)) (h.block _ (by omega)))
    have HD:Hid (Below wr.heap.size wr wr.drew):=aA (aB (Below.refl _ _) 1)
    have HGG:=aA (And.intro hgw hg2w)
    clear he ez es hSm hc0 hc1 HT HSz hc2 hzi
    go_upto_region 7 with fail
    refine CalmN.region_tree (fun x=>∃y:OnP [g,g2] wr,x=y.1) (.one [1,2,3,4,5,6,7,8] 0 (.one [] 9 (.one [] 10 (.fin [])))) (by kernel_rfl) (by kernel_rfl) (fun _ _ d _ _ h=>by cases d <;> exact h) (HOB.out _ HD.out) ?_
    simp only[CalmN.wpT,CalmN.wpSt,CalmN.pickOps,List.getElem?_toArray,List.getElem?_cons_zero,List.getElem?_cons_succ]
    repeat (go_big_quiet_step (fail))
    refine wpQuiet_nil ?_
    obtain⟨wd,hwd⟩:∃y,y=wr.drew:=⟨_,rfl⟩
    rw[←hwd]at HD ⊢
    have HWD:=aA (HW.out.on HD.out)
    clear hwd k0 u0 u1 kc
    intro KK hKK
    rw[if_pos (by rfl)]
    have s0:=cell_of_row wd _ 0 _ _ _ HWD.out.sb
    have s1:=cell_of_row wd _ 1 _ _ _ HWD.out.sb
    have ls:=HWD.out.lt
    go_wp2_with fail
    refine hKK _ _ (HOB.out _ HD.out) (fun x=>∃y:OnP [g,g2] wr,x=y.1) (fun _ h=>h) (HOB.out _ HD.out) ?_
    clear hKK s0 s1 ls
    refine wpQuiet_nil ?_
    intro KK hKK
    rw[if_pos (by rfl)]
    go_wp2_with fail
    refine(HAN2.out wd).mono ?_;rintro _ we ⟨rfl,hb⟩
    have HE:=aA (HD.out.trans (hb.mono HD.out.size))
    clear hb
    go_wp2_with fail
    refine hKK _ _ (HOB.out _ HE.out) (fun x=>∃y:OnP [g,g2] wr,x=y.1) (fun _ h=>h) (HOB.out _ HE.out) ?_
    clear hKK
    refine wpQuiet_nil ?_
    intro KK hKK
    rw[if_pos (by rfl)]
    have HWE:=aA (HW.out.on HE.out)
    have HWF:=aA (HWE.out.set a2 b2)
    have HF:=aA (HON.out _ ((SzD.off a2 b2 HGG.out.1).trans (HE.out.block g (by have:=HGG.out;omega))) ((SzD.off a2 b2 HGG.out.2).trans (HE.out.block g2 (by have:=HGG.out;omega))))
    have f0:=frozen_of_row we _ 0 _ _ HWE.out.sb
    have f1:=frozen_of_row we _ 1 _ _ HWE.out.sb
    have s0:=cell_of_row we _ 0 _ _ _ HWE.out.sb
    have s1:=cell_of_row we _ 1 _ _ _ HWE.out.sb
    have ls:=HWE.out.lt
    go_wp2_with fail
    refine hKK _ _ HF.out (fun x=>∃y:OnP [g,g2] wr,x=y.1) (fun _ h=>h) HF.out ?_
    clear hKK s0 s1 f0 f1 ls
    refine wpQuiet_nil ?_
    obtain⟨wf,hwf⟩:∃y,y=(we.setCell ⟨w.heap.size+1,0,none⟩ (.int .i64 (a2:Int))).setCell ⟨w.heap.size+1,1,none⟩ (.int .i64 (b2:Int)):=⟨_,rfl⟩
    rw[←hwf]at HWF ⊢
    clear HF hwf
    go_wp2
    go_roundw
    case rel=>exact⟨k+1,a2,b2,hlt,by go_num,HT2,HWF⟩
    case measure=>simp[intOf];omega
   ·have ez:Gm.szOf S z=(0,1):=by unfold Gm.szOf;rw[if_neg h0]
    rw[ez]at HT
    have d0:decide (0≤z)=true:=decide_eq_true (by omega)
    have HAN2:=aA (fun y=>HAN.out a b 0 1 y (by have:=HAB.out;omega) (by have:=HAB.out;omega) (by omega) (by omega))
    have HT2:Hid ((min 1000 (a+0),min 1000 (b+1))=Gm.szFD S (l.take (k+1))):=aA HT.out.symm
    generalize min 1000 (a+0)=a2 at *
    generalize min 1000 (b+1)=b2 at *
    have s0:=cell_of_row wr _ 0 _ _ _ HW.out.sb
    have s1:=cell_of_row wr _ 1 _ _ _ HW.out.sb
    have HBD:∀w:World,(Instr.build 57 #[(1,Value.int .i64 1)]).run Tryz.prog w=.ok (.agg #[.int .i64 0,.int .i64 1]) w:=fun w=>run_build w 57 _ _ (by kernel_rfl)
    clear ez HT HSz hzi
    go_upto_region 6 with fail
    go_wp2_with fail
    refine(HAN2.out _).mono ?_;rintro _ we ⟨rfl,hb⟩
    have HWE:=aA (HW.out.on hb)
    clear hb s0 s1 hd
    have HWF:=aA (HWE.out.set a2 b2)
    have f0:=frozen_of_row we _ 0 _ _ HWE.out.sb
    have f1:=frozen_of_row we _ 1 _ _ HWE.out.sb
    have s0:=cell_of_row we _ 0 _ _ _ HWE.out.sb
    have s1:=cell_of_row we _ 1 _ _ _ HWE.out.sb
    have ls:=HWE.out.lt
    go_wp2
    go_roundw
    case rel=>exact⟨k+1,a2,b2,hlt,by go_num,HT2,HWF⟩
    case measure=>simp[intOf];omega
  ·obtain rfl:k=l.length:=by omega
   rw[List.take_length]at HK
   have s0:=cell_of_row wr _ 0 _ _ _ HW.out.sb
   have s1:=cell_of_row wr _ 1 _ _ _ HW.out.sb
   have f0:=frozen_of_row wr _ 0 _ _ HW.out.rb
   have f1:=frozen_of_row wr _ 1 _ _ HW.out.rb
   have r0:=cell_of_row wr _ 0 _ _ _ HW.out.rb
   have r1:=cell_of_row wr _ 1 _ _ _ HW.out.rb
   have hrb:=heap_setCell_same _ _ 1 _ _ (.int .i64 (b:Int)) (heap_setCell_same wr _ 0 _ _ (.int .i64 (a:Int)) HW.out.rb)
   have g0:=cell_of_row _ _ 0 _ _ _ hrb
   have g1:=cell_of_row _ _ 1 _ _ _ hrb
   have HB2:=aA ((HW.out.be.setCell (p:=⟨w.heap.size,0,none⟩) (Nat.le_refl _) (.int .i64 (a:Int))).setCell (p:=⟨w.heap.size,1,none⟩) (Nat.le_refl _) (.int .i64 (b:Int)))
   clear hrb
   go_wp2
   refine bodyPost_ret (v:=.agg #[.int .i64 (a:Int),.int .i64 (b:Int)]) (by simp[results,Tryz.results35,go_sem,g0,g1]) rfl ?_
   exact⟨by rw[←HK.out],HB2.out⟩
end Go.Proofs.YtcgclkndkahgaaaGreat
namespace Go.Proofs.YtcgclkndkahgaaaGreat
set_option maxRecDepth 100000
set_option maxHeartbeats 40000000
open Go.RowKit
theorem zhz:(Tryz.prog.info? 57).map (fun i=>(i.zero,i.size,i.bytes))=some (some (.agg #[.int .i64 0,.int .i64 0]),2,16):=by kernel_rfl
def zih (G:Gm.Gr) (w:World) (e:Ending) (w':World):Prop:=∃g,e=.returned (.slice (some ⟨g,0,none⟩) G.ns.length G.ns.length)∧w.heap.size≤g∧UBQ 57 szc w' g (Gm.szLD G)∧Below w.heap.size w w'
theorem zcd (v:Value) (G:Gm.Gr) (B:Nat) (w:World) (hg:aN w B v G) (hf:Gm.Fit G) (hr:Gm.right G=true) (hB:B≤w.heap.size) :
  Calls Tryz.prog 27 #[v] w (zih G w):=by
 have H1:=aA (fun(x:World) (h:Below w.heap.size w x)=>(show Calls _ _ _ _ (fun e w'=>∃g,e=.returned (.slice (some ⟨g,0,none⟩) G.ns.length G.ns.length)∧x.heap.size≤g∧UBI w' g (oiN (Gm.hts G))∧Below x.heap.size x w') from(zaP v G B x (hg.below h hB) hf (Nat.le_trans hB h.size)).mono fun e w' k=>by have:=k.1 hr;rw[Gm.htI_len]at this;exact this))
 have H2:=aA (fun(x:World) (h:Below w.heap.size w x)=>(show Calls _ _ _ _ (zgp (Gm.best G (Gm.hts G)) x) from by have:=zaY v G B x (hg.below h hB) hf (Nat.le_trans hB h.size);unfold Gm.bestG at this;rw[if_pos hr]at this;exact this))
 have HOK:=aA (Gm.right_ok.1 hr)
 obtain⟨AT,cT,AN,cN,AR,cR,rfl,_,⟨hlN,hmN⟩,⟨hlR,hmR⟩,_,_,hR⟩:=hg
 have HS0:=aA (One.start w #[.slice AT G.ts.length cT,.slice AN G.ns.length cN,.slice AR G.rs.length cR,.int .i64 G.st])
 have HRl:=aA hR
 have HB:=aA hB
 have HFT:=aA hf
 have HN:Hid (1≤G.ns.length∧G.ns.length≤16):=aA (by have:=(Gm.nons_iff G).1 HOK.out.n;exact⟨this.1,this.2.1⟩)
 have hlen:(G.ns.length:Int)≤9223372036854775807:=by have:=HN.out;omega
 have hlen2:(G.rs.length:Int)≤9223372036854775807:=by have:=HOK.out.r40;omega
 obtain⟨w1,hw1⟩:∃y,y=w.alloc (.cells #[.slice AT G.ts.length cT,.slice AN G.ns.length cN,.slice AR G.rs.length cR,.int .i64 G.st] 26):=⟨_,rfl⟩
 rw[←hw1]at HS0
 have hd1:w.heap.size<w1.heap.size:=HS0.out.size
 have q0:=fun y:Calm.On w1.heap.size w1=>(y.2.cell (p:=⟨w.heap.size,0,none⟩) hd1).trans (HS0.out.c 0 _ rfl)
 have q1:=fun y:Calm.On w1.heap.size w1=>(y.2.cell (p:=⟨w.heap.size,1,none⟩) hd1).trans (HS0.out.c 1 _ rfl)
 have q2:=fun y:Calm.On w1.heap.size w1=>(y.2.cell (p:=⟨w.heap.size,2,none⟩) hd1).trans (HS0.out.c 2 _ rfl)
 have q3:=fun y:Calm.On w1.heap.size w1=>(y.2.cell (p:=⟨w.heap.size,3,none⟩) hd1).trans (HS0.out.c 3 _ rfl)
 have HSB:Hid (∀z,Below w1.heap.size w1 z→∃q:Calm.On w1.heap.size w1,z=q.1):=aA (fun z hz=>⟨⟨z,hz⟩,rfl⟩)
 have HD:Hid (Below w1.heap.size w1 w1.drew):=aA (aB (Below.refl _ _) 1)
 have HI2:=aA (show(Value.agg #[.int .i64 0,.int .i64 0]).cells.size=2 from rfl)
 clear hf hR hB hr
 go_enter Tryz.func27,Tryz.ntmps27
 go_upto_region 1 with fail
 rw[←hw1]
 clear hw1
 refine CalmN.region_tree (fun x=>∃y:Calm.On w1.heap.size w1,x=y.1) (.one [0,2] 1 (.one [] 3 (.fin [4,5]))) (by kernel_rfl) (by kernel_rfl) (fun _ _ d _ _ h=>by cases d <;> exact h) ⟨⟨w1.drew,HD.out⟩,rfl⟩ ?_
 simp only[CalmN.wpT,CalmN.wpSt,CalmN.pickOps,List.getElem?_toArray,List.getElem?_cons_zero,List.getElem?_cons_succ]
 repeat (go_big_quiet_step (fail))
 refine wpQuiet_nil ?_
 generalize w1.drew=wd at *
 clear q0 q1 q2 q3
 intro KK hKK
 rw[if_pos (by rfl)]
 go_wp2_with fail
 refine(H1.out wd (HS0.out.on HD.out).below).mono ?_;rintro _ we ⟨gH,rfl,_,huH,hb⟩
 have HE:=aA (HD.out.trans (hb.mono HD.out.size))
 have HUE:=aA huH
 clear huH hb
 go_wp2_with fail
 refine hKK _ _ (HSB.out _ HE.out) (fun x=>∃y:Calm.On w1.heap.size w1,x=y.1) (fun _ h=>h) (HSB.out _ HE.out) ?_
 clear hKK
 refine wpQuiet_nil ?_
 intro KK hKK
 rw[if_pos (by rfl)]
 go_wp2_with fail
 refine(H2.out we (HS0.out.on HE.out).below).mono ?_;rintro _ wf ⟨v2,rfl,ho,hb⟩
 have HF:=aA (HE.out.trans (hb.mono HE.out.size))
 have HUF:=aA (HUE.out.below hb HUE.out.lt)
 obtain⟨A2,c2,rfl,_,_,hr2⟩:=ho.form
 rw[Gm.best_len]at ho ⊢
 have HR2:=aA hr2
 have HWF:=aA (HS0.out.on HF.out)
 clear ho hb hr2
 go_wp2_with fail
 refine hKK _ _ (HSB.out _ HF.out) (fun x=>∃y:Calm.On w1.heap.size w1,x=y.1) (fun _ h=>h) (HSB.out _ HF.out) ?_
 clear hKK
 repeat (go_big_quiet_step (fail))
 refine wpQuiet_nil ?_
 clear HE HUE HD HSB HF H1 H2 hd1 HS0
 have hn6:G.ns.length≤1000000:=by have:=HN.out;omega
 go_upto_region 3 with(at_make;refine zgU (f:=szc) (m:=2) rfl (.tmp 13) (.tmp 13) _ rfl Tryz.underlying58 _ 16 zhz HI2.out (by decide) (by decide) (0,0) rfl G.ns.length rfl rfl hn6 ?_;intro w3 hu3 hb3)
 obtain⟨gS,hgS⟩:∃g,g=wf.heap.size:=⟨_,rfl⟩
 rw[←hgS]at hu3 ⊢
 have HW3:=aA (HWF.out.on hb3)
 have HU3:=aA (HUF.out.below hb3 HUF.out.lt)
 have HR3:=aA ((HR2.out.below hb3 (Nat.le_refl _)))
 have HS3:=aA hu3
 have HGS:Hid (gS=wf.heap.size∧gH<gS∧w.heap.size+1≤gS):=aA ⟨hgS,by rw[hgS];exact HUF.out.lt,by rw[hgS];exact HWF.out.size⟩
 rw[←hgS]at HR3
 clear hu3 hb3 hgS HUF HR2 HWF
 go_wp2
 go_loopw [6] (fun vk wr=>∃(k:Nat) (S:List (Nat×Nat)),k≤G.ns.length∧vk=.int .i64 ((k:Int)+1)∧Hid (Gm.KnD G (k+1) 0 S)∧Hid (UBQ 57 szc wr gS S)∧Hid (UBI wr gH (oiN (Gm.hts G)))∧Hid (RdI wr gS A2 (Gm.best G (Gm.hts G)))∧Hid (One w #[.slice AT G.ts.length cT,.slice AN G.ns.length cN,.slice AR G.rs.length cR,.int .i64 G.st] wr)) (fun vk _=>G.ns.length+1-(intOf vk).toNat)
 case atStart=>exact⟨0,_,Nat.zero_le _,rfl,aA (Gm.KnD.zero G),HS3,HU3,HR3,HW3⟩
 case round =>
  clear HS3 HU3 HR3 HW3
  obtain⟨k,S,hk,rfl,HX,HS,HU,HR,HW⟩:=hrel
  obtain⟨wo,hwo⟩:∃wo:World,wo=wr:=⟨_,rfl⟩
  subst hwo
  obtain⟨dk,hdk⟩:∃x:Int,x=(k:Int)+1:=⟨_,rfl⟩
  rw[←hdk]
  have HDK:=aA hdk
  by_cases hlt:k<G.ns.length
  ·have d1:decide (dk≤(G.ns.length:Int))=true:=decide_eq_true (by omega)
   have hwd:IntKind.i64.wrap (dk+1)=dk+1:=IntWalk.i64_in _ (by have:=HN.out;omega)
   have HVN:Hid (Value.int .i64 (dk+1)=.int .i64 (((k+1:Nat):Int)+1)):=aA (by rw[hdk];simp)
   clear hdk
   go_wp2
   go_loopw [7] (fun vn wr=>∃(n:Nat) (S:List (Nat×Nat)),n≤G.ns.length∧vn=.int .i64 n∧Hid (Gm.KnD G (k+1) n S)∧Hid (UBQ 57 szc wr gS S)∧Hid (UBI wr gH (oiN (Gm.hts G)))∧Hid (RdI wr gS A2 (Gm.best G (Gm.hts G)))∧Hid (One w #[.slice AT G.ts.length cT,.slice AN G.ns.length cN,.slice AR G.rs.length cR,.int .i64 G.st] wr)) (fun vn _=>G.ns.length-(intOf vn).toNat)
   case atStart=>exact⟨0,_,Nat.zero_le _,rfl,HX,HS,HU,HR,HW⟩
   case round =>
    clear HX HS HU HR HW
    obtain⟨n,S,hn,rfl,HX,HS,HU,HR,HW⟩:=hrel
    by_cases hlt2:n<G.ns.length
    ·have kh:=HU.out.cell n (by rw[zaJ,Gm.hts_len];exact hlt2)
     rw[zdQ]at kh
     have lh:=HU.out.lt
     have hn3:(n:Int)<(G.ns.length:Int):=by omega
     have HSN:=aA HX.out.n
     by_cases c1:(Gm.hts G).getD n 0=k+1
     ·have f1:(((Gm.hts G).getD n 0:Nat):Int)=dk:=by rw[c1,HDK.out];simp
      rw[f1]at kh
      have f2:(dk==dk)=true:=by simp
      obtain⟨i,hi,hbi,esz,hsn⟩:=HX.out.ready HOK.out (Nat.succ_pos k) c1 hlt2
      obtain⟨g,o,rfl,hgB,hc⟩:=HRl.out (by omega)
      obtain⟨_,⟨A',c',k1,_,_,hri⟩,_⟩:=hc i hi
      have k1w:=(HW.out.below.cell (p:=⟨g,o+i*3+1,none⟩) (Nat.lt_of_lt_of_le hgB HB.out)).trans k1
      obtain⟨gB,oB,rfl,hgBS,hcB⟩:=HR.out (by rw[Gm.best_len];omega)
      have kb0:=hcB n (by rw[Gm.best_len];exact hlt2)
      rw[hbi]at kb0
      have hrin:=(HFT.out.r _ (List.getElem_mem hi)).2.2
      have hrl:=(Gm.rule_in (HOK.out.rr _ (List.getElem_mem hi))).1
      have HRI:=aA hri
      have HSZ0:=aA (fun(y:World) (hr:RdI y B A' (G.rs[i]'hi).r) (hS:UBQ 57 szc y gS S) (hBy:B≤y.heap.size)=>zcY (G.rs[i]'hi).r S A' (some ⟨gS,0,none⟩) c' G.ns.length G.ns.length B y.heap.size y hr hBy (hS.rd0 zas hS.lt) (Nat.le_refl _) hrin (fun z hz hn=>by rw[HX.out.n];exact hsn z hz hn) HX.out.le HX.out.n.symm (by omega))
      have hfl:=Gm.szFD_le S (G.rs[i]'hi).r
      obtain⟨r,hr⟩:∃r,r=(G.rs[i]'hi).r:=⟨_,rfl⟩
      rw[←hr]at k1w HRI HSZ0 hfl esz
      have HPUT:=aA (HX.out.put (Nat.succ_pos k) c1 hlt2 esz)
      have hin3:(i:Int)<(G.rs.length:Int):=by omega
      clear hr hrin hrl hc hri k1 hcB hbi hsn c1
      obtain⟨⟨fa,fb⟩,hsf⟩:∃s:Nat×Nat,s=Gm.szFD S r:=⟨_,rfl⟩
      rw[←hsf]at HSZ0 hfl HPUT
      clear hsf esz
      simp only at hfl
      have HAN:=aA (fun y=>zcZ 1 0 fa fb y (by decide) (by decide) (by omega) (by omega))
      have HPUT:Hid (Gm.KnD G (k+1) (n+1) (S.set n (min 1000 (1+fa),min 1000 (0+fb)))):=HPUT
      generalize min 1000 (1+fa)=ra at *
      generalize min 1000 (0+fb)=rb at *
      have lw:w.heap.size<wr.heap.size:=HW.out.size
      have hgw:g<w.heap.size:=Nat.lt_of_lt_of_le hgB HB.out
      have HGG:=aA (And.intro lw (And.intro hgw hgBS))
      have lS:gS<wr.heap.size:=HS.out.lt
      have q2:=fun y:OnP [w.heap.size,g,gB] wr=>(y.cell (p:=⟨w.heap.size,2,none⟩) (by simp)).trans (HW.out.c 2 _ rfl)
      have k1:=fun y:OnP [w.heap.size,g,gB] wr=>(y.cell (p:=⟨g,o+i*3+1,none⟩) (by simp)).trans k1w
      have kb:=fun y:OnP [w.heap.size,g,gB] wr=>(y.cell (p:=⟨gB,oB+n,none⟩) (by simp)).trans kb0
      have HON:Hid (∀x,x.heap[w.heap.size]?=wr.heap[w.heap.size]?→x.heap[g]?=wr.heap[g]?→x.heap[gB]?=wr.heap[gB]?→∃y:OnP [w.heap.size,g,gB] wr,x=y.1):=aA (fun x h1 h2 h3=>⟨⟨x,fun q hg=>by simp at hg;rcases hg with rfl|rfl|rfl;exact h1;exact h2;exact h3⟩,rfl⟩)
      have HOB:Hid (∀x,Below wr.heap.size wr x→∃y:OnP [w.heap.size,g,gB] wr,x=y.1):=aA (fun x h=>HON.out x (h.block _ lw) (h.block _ (by omega)) (h.block _ (by omega)))
      have HD:Hid (Below wr.heap.size wr wr.drew):=aA (aB (Below.refl _ _) 1)
      have HBD:∀w:World,(Instr.build 57 #[(0,Value.int .i64 1)]).run Tryz.prog w=.ok (.agg #[.int .i64 1,.int .i64 0]) w:=fun w=>run_build w 57 _ _ (by kernel_rfl)
      clear f1 k1w kb0 HX
      go_upto_region 10 with fail
      refine CalmN.region_tree (fun x=>∃y:OnP [w.heap.size,g,gB] wr,x=y.1) (.one [0,1,2,3,4,5,6,7,8,9,10,11,12] 13 (.one [] 14 (.one [15] 16 (.fin [])))) (by kernel_rfl) (by kernel_rfl) (fun _ _ d _ _ h=>by cases d <;> exact h) (HOB.out _ HD.out) ?_
      simp only[CalmN.wpT,CalmN.wpSt,CalmN.pickOps,List.getElem?_toArray,List.getElem?_cons_zero,List.getElem?_cons_succ]
      repeat (go_big_quiet_step (fail))
      refine wpQuiet_nil ?_
      generalize wr.drew=wd at *
      clear q2 k1 kb kh
      intro KK hKK
      rw[if_pos (by rfl)]
      have hrb:=HSZ0.out wd (HRI.out.keep (fun g o hg=>((HW.out.on HD.out).below.cell (p:=⟨g,o,none⟩) (Nat.lt_of_lt_of_le hg HB.out)))) (HS.out.below HD.out HS.out.lt) (Nat.le_trans HB.out (HW.out.on HD.out).below.size)
      have HRB:=aA hrb
      clear hrb HSZ0 HRI
      go_wp2_with fail
      refine HRB.out.mono ?_;rintro _ we ⟨rfl,hb⟩
      have HE:=aA (HD.out.trans (hb.mono HD.out.size))
      clear hb
      go_wp2_with fail
      refine hKK _ _ (HOB.out _ HE.out) (fun x=>∃y:OnP [w.heap.size,g,gB] wr,x=y.1) (fun _ h=>h) (HOB.out _ HE.out) ?_
      clear hKK
      refine wpQuiet_nil ?_
      intro KK hKK
      rw[if_pos (by rfl)]
      go_wp2_with fail
      refine(HAN.out we).mono ?_;rintro _ wj ⟨rfl,hb⟩
      have HJ:=aA (HE.out.trans (hb.mono HE.out.size))
      clear hb
      go_wp2_with fail
      refine hKK _ _ (HOB.out _ HJ.out) (fun x=>∃y:OnP [w.heap.size,g,gB] wr,x=y.1) (fun _ h=>h) (HOB.out _ HJ.out) ?_
      clear hKK
      repeat (go_big_quiet_step (fail))
      refine wpQuiet_nil ?_
      intro KK hKK
      rw[if_pos (by rfl)]
      have HSJ:=aA (HS.out.below HJ.out HS.out.lt)
      have HUJ:=aA (HU.out.below HJ.out HU.out.lt)
      have HRJ:=aA (HR.out.below HJ.out (Nat.le_of_lt HS.out.lt))
      have HWJ:=aA (HW.out.on HJ.out)
      have s0:=HSJ.out.cell zas n 0 (by rw[HSN.out];exact hlt2) _ rfl
      rw[Nat.add_zero]at s0
      have s1:=HSJ.out.cell zas n 1 (by rw[HSN.out];exact hlt2) _ rfl
      have f0:=HSJ.out.frozen (n*2)
      have f1:=HSJ.out.frozen (n*2+1)
      have ls:=HSJ.out.lt
      have HS2:=aA (HSJ.out.set2 zas n (ra,rb) _ _ rfl)
      have hs1:wj.grownBy ((wj.setCell ⟨gS,n*2,none⟩ (.int .i64 (ra:Int))).setCell ⟨gS,n*2+1,none⟩ (.int .i64 (rb:Int))) (some gS):=aE (aE (World.grownBy.refl wj (some gS)) (n*2) _) (n*2+1) _
      have HU2:=aA (UBI.far (p:=⟨gS,n*2+1,none⟩) (UBI.far (p:=⟨gS,n*2,none⟩) HUJ.out (show gH≠gS by have:=HGS.out;omega) (.int .i64 (ra:Int))) (show gH≠gS by have:=HGS.out;omega) (.int .i64 (rb:Int)))
      have HR2:=aA (HRJ.out.grown hs1 (Nat.le_refl _) (Nat.le_of_lt ls))
      have HW2:=aA ((Below.setCell HWJ.out (p:=⟨gS,n*2,none⟩) (show w.heap.size+1≤gS from HGS.out.2.2) (.int .i64 (ra:Int))).setCell (p:=⟨gS,n*2+1,none⟩) (show w.heap.size+1≤gS from HGS.out.2.2) (.int .i64 (rb:Int)))
      have hne:∀q,q≠gS→some q≠some gS:=fun q h e=>h (Option.some.inj e)
      have hU:=HON.out _ ((hs1.block w.heap.size (by have:=HGG.out;have:=HJ.out.size;omega) (hne _ (by have:=HGS.out;omega))).trans (HJ.out.block _ HGG.out.1)) ((hs1.block g (by have:=HGG.out;have:=HJ.out.size;omega) (hne _ (by have:=HGS.out;have:=HGG.out;omega))).trans (HJ.out.block _ (by have:=HGG.out;omega))) ((hs1.block gB (by have:=HGG.out;omega) (hne _ (by have:=HGG.out;omega))).trans (HJ.out.block _ (by have:=HGG.out;omega)))
      clear hs1 hne
      go_wp2_with fail
      refine hKK _ _ hU (fun x=>∃y:OnP [w.heap.size,g,gB] wr,x=y.1) (fun _ h=>h) hU ?_
      clear hKK s0 s1 f0 f1 ls hU
      refine wpQuiet_nil ?_
      obtain⟨wk,hwk⟩:∃y,y=(wj.setCell ⟨gS,n*2,none⟩ (.int .i64 (ra:Int))).setCell ⟨gS,n*2+1,none⟩ (.int .i64 (rb:Int)):=⟨_,rfl⟩
      rw[←hwk]at HS2 HU2 HR2 HW2 ⊢
      clear hwk
      go_wp2
      go_roundw
      case rel=>exact⟨n+1,_,hlt2,by go_num,HPUT,HS2,HU2,HR2,HW2⟩
      case measure=>simp[intOf];omega
     ·have f1:((((Gm.hts G).getD n 0:Nat):Int)==dk)=false:=beq_eq_false_iff_ne.2 (by rw[HDK.out];omega)
      have HX2:=aA (HX.out.skip c1)
      generalize (Gm.hts G).getD n 0=hv at *
      clear c1
      go_wp2
      go_roundw
      case rel=>exact⟨n+1,S,hlt2,by go_num,HX2,HS,HU,HR,HW⟩
      case measure=>simp[intOf];omega
    ·obtain rfl:n=G.ns.length:=by omega
     have HX2:=aA HX.out.up
     go_wp2
     go_roundw
     case rel=>exact⟨k+1,S,hlt,HVN.out,HX2,HS,HU,HR,HW⟩
     case measure=>simp[intOf];have:=HDK.out;omega
  ·have d1:decide (dk≤(G.ns.length:Int))=false:=decide_eq_false (by omega)
   obtain rfl:k=G.ns.length:=by omega
   have hX:=HX.out.all HOK.out
   clear hdk
   go_wp2
   go_ret
   exact⟨gS,rfl,by have:=HGS.out;omega,by rw[←hX];exact HS.out,HW.out.below⟩
end Go.Proofs.YtcgclkndkahgaaaGreat
namespace Go.Proofs.YtcgclkndkahgaaaGreat
set_option maxRecDepth 100000
set_option maxHeartbeats 40000000
open Go.RowKit Go.ChangeShapes Go.WideShapes Go.ChangeAt
theorem zhb {w:World} {o:Oper} {a:Act} {Q:Exit→Act→World→Prop} {K:Act→World→Prop}
  (s x:Operand) (t:TypeId) (ho:o.op=.call {callee:=.builtin .append,args:=#[s,x],argTypes:=#[t,t]}) (ht:Tryz.prog.underlying t=some (.slice 3))
  (base:Nat) (v:Value) (xs:List Int) (hs:a.eval s=v) (hown:aJ w base v xs) (g c:Nat) (z:Int) (hx:a.eval x=.slice (some ⟨g,0,none⟩) 1 c) (hz:w.cell? ⟨g,0,none⟩=some (.int .i64 z))
  (hlen:xs.length≤1000000000000) (hbase:base≤w.heap.size)
  (hK:∀v' w',aJ w' base v' (xs++[z])→w.grownBy w' v.ownBlock→K (a.put o.dst v') w') :
  o.wp Tryz.prog a w K Q:=by
 obtain⟨i,hi,hz0,hz1,hz2⟩:=info_parts zdz
 refine wp_append_own w s x t ho base 3 i (.int .i64 0) 1 8 ht hi hz0 hz1 hz2 rfl (by decide) v xs.length (xs.map (Value.int .i64)) hs hown ⟨g,0,none⟩ 1 c [.int .i64 z] hx rfl ?_ ?_ (by unfold maxLen;omega) (by omega) hbase fun v' w' h1 h2 _=>hK v' w' ?_ h2
 ·intro j u hj
  match j,hj with
  | 0,hj=>simp at hj;subst hj;simpa[Addr.add] using hz
  | j+1,hj=>simp at hj
 ·intro u hu;simp at hu;subst hu;rfl
 ·unfold aJ
  rw[List.length_append,List.map_append];exact h1
theorem zfB {w:World} {o:Oper} {a:Act} {Q:Exit→Act→World→Prop} {K:Act→World→Prop}
  (s x:Operand) (t:TypeId) (ho:o.op=.call {callee:=.builtin .append,args:=#[s,x],argTypes:=#[t,t]}) (ht:Tryz.prog.underlying t=some (.slice 3))
  (base:Nat) (v:Value) (xs:List Int) (hs:a.eval s=v) (hown:aJ w base v xs) (B m c:Nat) (A:Option Addr) (zs:List Int) (hx:a.eval x=.slice A m c) (hm:m=zs.length) (hr:RdI w B A zs)
  (hlen:xs.length+zs.length≤1000000000000) (hbase:base≤w.heap.size)
  (hK:∀v' w',aJ w' base v' (xs++zs)→w.grownBy w' v.ownBlock→K (a.put o.dst v') w') :
  o.wp Tryz.prog a w K Q:=by
 obtain⟨i,hi,hz0,hz1,hz2⟩:=info_parts zdz
 subst hm
 rcases A with _|ad
 ·have hz:zs=[]:=by
   rcases Nat.eq_zero_or_pos zs.length with h0|h0
   ·exact List.eq_nil_of_length_eq_zero h0
   ·obtain⟨g,o',h,_⟩:=hr (by omega);cases h
  subst hz
  have hrun:=zag (P:=Tryz.prog) w base t o.type 3 i 1 ht hi v xs.length _ hown c
  unfold Oper.wp
  simp[execOp,ho,resolve,invoke,builtin,hs,hx,hrun,Result.andThen]
  exact hK v w (by simpa using hown) (World.grownBy.refl _ _)
 ·refine wp_append_own w s x t ho base 3 i (.int .i64 0) 1 8 ht hi hz0 hz1 hz2 rfl (by decide) v xs.length (xs.map (Value.int .i64)) hs hown ad zs.length c (zs.map (Value.int .i64)) hx (by simp) ?_ ?_ (by unfold maxLen;omega) (by omega) hbase fun v' w' h1 h2 _=>hK v' w' ?_ h2
  ·intro j u hj
   have hjl:j<zs.length:=by have:=(List.getElem?_eq_some_iff.1 hj).1;simpa using this
   obtain⟨g,o',h,_,hc⟩:=hr (by omega)
   replace h:=Option.some.inj h
   subst h
   have e:((⟨g,o',none⟩:Addr).add j)=⟨g,o'+j,none⟩:=by unfold Addr.add;by_cases h0:j=0 <;> simp[h0]
   rw[e,hc j hjl]
   rw[List.getElem?_map,List.getElem?_eq_getElem hjl]at hj
   rw[L.gd_lt hjl];simpa using hj
  ·intro u hu;obtain⟨z,_,rfl⟩:=List.mem_map.1 hu;rfl
  ·unfold aJ
   rw[List.length_append,List.map_append];exact h1
end Go.Proofs.YtcgclkndkahgaaaGreat
namespace Go.Proofs.YtcgclkndkahgaaaGreat
set_option maxRecDepth 100000
set_option maxHeartbeats 40000000
open Go.RowKit
theorem One.grownI {w wr w':World} {a:Array Value} {base:Nat} {v:Value} {xs:List Int} (h:One w a wr) (ho:aJ wr base v xs) (hg:wr.grownBy w' v.ownBlock) (hb:w.heap.size+1≤base) (hs:base≤wr.heap.size):One w a w' :=
 Below.grown h hg (Nat.le_trans hb hs) (fun k e=>Nat.le_trans hb (World.ownsRow.lt ho k e).1)
theorem zeT (v:Value) (G:Gm.Gr) (hok:Gm.Ok G) (hf:Gm.Fit G):∀(f:Nat) (r:List Int),Gm.Pr G r→Gm.topH (Gm.hts G) r≤f→(∀z∈r,Gm.In z)→r.length≤1000000→∀(A A2:Option Addr) (c c2 B Br Bb:Nat) (w:World),aN w B v G→B≤w.heap.size→RdI w Br A r→Br≤w.heap.size→RdI w Bb A2 (Gm.best G (Gm.hts G))→Bb≤w.heap.size→(Gm.ltree G r).length≤1000000 →
  Calls Tryz.prog 28 #[v,.slice A r.length c,.slice A2 G.ns.length c2] w (zgp (oiN (Gm.ltree G r)) w):=by
 intro f
 induction f with
 | zero|succ f ih =>
  intro r hPr hTop hin hrl A A2 c c2 B Br Bb w hg hB hri hBr hrb hBb hlen
  have hg0:=hg
  obtain⟨AT,cT,AN,cN,AR,cR,rfl,_,⟨hlN,hmN⟩,⟨hlR,hmR⟩,_,_,hR⟩:=hg
  have HS0:=aA (One.start w #[.slice AT G.ts.length cT,.slice AN G.ns.length cN,.slice AR G.rs.length cR,.int .i64 G.st])
  have HST:=aA (fun(m:Nat) (z:Int) (hz:z∈r) (hm:-1-z=(m:Int))=>(show ∃i x,∃hi:i<G.rs.length,G.rs[i]=x∧(Gm.best G (Gm.hts G)).getD m 0=(i:Int)∧m<G.ns.length∧Gm.ltree G [z]=i::Gm.ltree G x.r ∧
    ∀(A':Option Addr) (c':Nat) (y:World),Below w.heap.size w y→RdI y B A' x.r→(Gm.ltree G x.r).length≤1000000→Calls Tryz.prog 28 #[.agg #[.slice AT G.ts.length cT,.slice AN G.ns.length cN,.slice AR G.rs.length cR,.int .i64 G.st],.slice A' x.r.length c',.slice A2 G.ns.length c2] y (zgp (oiN (Gm.ltree G x.r)) y) from by
   have hz0:z = -1-(m:Int):=by omega
   have hz1:z<0:=by omega
   have hp3:=hPr z hz hz1
   have ht3:=Gm.topH_le.1 hTop z hz hz1
   have hpos:=Gm.hts_pos hok (j:=m) (by rw[←hm];exact hp3)
   have hmm:(-1-z).toNat=m:=by omega
   rw[hmm]at ht3
   first
   | omega
   |obtain⟨i,hi,hbi,hln,hlr,hjn⟩:=Gm.best_i hok (j:=m) (by rw[←hm];exact hp3)
    rw[←hz0]at hlr hln
    have hE:=Gm.ltree_non hok hz1 hp3
    have hPr2:=(Gm.lrt_of hok hz1 hp3).1
    have hTop2:=Gm.top_lt hok hz1 hp3 (f:=f) (by rw[hmm];exact ht3)
    rw[hlr]at hPr2 hTop2
    rw[hlr,hln]at hE
    have hrl2:=(Gm.rule_in (hok.rr _ (List.getElem_mem hi))).1
    have hin2:=(hf.r _ (List.getElem_mem hi)).2.2
    exact⟨i,_,hi,rfl,hbi,hjn,hE,fun A' c' y hb hrd hl=>ih _ hPr2 hTop2 hin2 (by omega) A' A2 c' c2 B B Bb y (hg0.below hb hB) (Nat.le_trans hB hb.size) hrd (Nat.le_trans hB hb.size) (hrb.below hb hBb) (Nat.le_trans hBb hb.size) hl⟩))
  have HTK:=aA (fun k (hk:k<r.length)=>Gm.ltree_take hok hPr hk)
  have HTL:=aA (fun k=>Gm.ltree_len hok hPr k)
  have HTT:=aA (fun(z:Int) (hz:¬z<0)=>Gm.ltree_term hok hz)
  have HNL:=aA (Gm.ltree_nil G hok)
  have HLEN:=aA hlen
  have HRl:=aA hR
  have HB:=aA hB
  have HRI:=aA hri
  have HBr:=aA hBr
  have HRB:=aA hrb
  have HBb:=aA hBb
  have hrlen:(r.length:Int)≤9223372036854775807:=by omega
  obtain⟨w1,hw1⟩:∃y,y=w.alloc (.cells #[.slice AT G.ts.length cT,.slice AN G.ns.length cN,.slice AR G.rs.length cR,.int .i64 G.st] 26):=⟨_,rfl⟩
  rw[←hw1]at HS0
  have HO0:Hid (aJ w1 (w.heap.size+1) (.slice none 0 0) (oiN (Gm.ltree G (r.take 0)))):=aA (by rw[List.take_zero,HNL.out];exact aJ.nil _ _)
  clear hg0 hPr hTop hin hrl hB hri hBr hrb hBb hlen hR
  go_enter Tryz.func28,Tryz.ntmps28
  go_upto_region 1 with fail
  rw[←hw1]
  clear hw1
  go_wp2
  go_loopw [8,7] (fun vi vo wr=>∃(k:Nat) (VO:Value),VO=vo∧k≤r.length∧vi=.int .i64 k∧Hid (aJ wr (w.heap.size+1) VO (oiN (Gm.ltree G (r.take k))))∧Hid (One w #[.slice AT G.ts.length cT,.slice AN G.ns.length cN,.slice AR G.rs.length cR,.int .i64 G.st] wr)) (fun vi _ _=>r.length-(intOf vi).toNat)
  case atStart=>exact⟨0,_,rfl,Nat.zero_le _,rfl,HO0,HS0⟩
  case round =>
   clear HO0 HS0
   obtain⟨k,VO,rfl,hk,rfl,HO,HW⟩:=hrel
   by_cases hlt:k<r.length
   ·obtain⟨gA,oA,rfl,hgA,hcA⟩:=(HRI.out.below HW.out.below HBr.out) (by omega)
    have k0:=hcA k hlt
    rw[L.gd_lt hlt]at k0
    have hmz:=List.getElem_mem hlt
    have HTz:=aA (HTK.out k hlt)
    have HT1:=aA (HTT.out r[k])
    have HSTz:=aA (fun(m:Nat) (hm:-1-r[k]=(m:Int))=>HST.out m r[k] hmz hm)
    have HLz:Hid ((Gm.ltree G (r.take k)).length+(Gm.ltree G [r[k]]).length≤1000000):=aA (by
     have h1:=HTL.out (k+1)
     rw[HTz.out,List.length_append]at h1
     have h2:=HLEN.out
     omega)
    have lw:w.heap.size<wr.heap.size:=HW.out.size
    clear hcA hmz
    generalize r[k]=z at *
    by_cases h0:z<0
    ·obtain⟨m,hm⟩:∃m:Nat,-1-z=(m:Int):=⟨(-1-z).toNat,by omega⟩
     obtain⟨i,x,hi,hxe,hbi,hmn,hE,hcall⟩:=HSTz.out m hm
     obtain⟨gb,ob,rfl,hgb,hcb⟩:=(HRB.out.below HW.out.below HBb.out) (by rw[Gm.best_len];omega)
     have kb:=hcb m (by rw[Gm.best_len];exact hmn)
     rw[hbi]at kb
     obtain⟨g,o,rfl,hgB,hc⟩:=HRl.out (by omega)
     obtain⟨_,⟨A',c',k1,_,_,hri⟩,_⟩:=hc i hi
     rw[hxe]at k1 hri
     have k1:=(HW.out.below.cell (p:=⟨g,o+i*3+1,none⟩) (Nat.lt_of_lt_of_le hgB HB.out)).trans k1
     have HCL:=aA hcall
     have HEz:=aA hE
     have HRX:=aA hri
     have d0:decide (z<0)=true:=decide_eq_true h0
     have dw:IntKind.i64.wrap (-1-z)=(m:Int):=by rw[hm];exact IntWalk.i64_in _ (by have:=HRl;omega)
     have hm3:(m:Int)<(G.ns.length:Int):=by omega
     have hi3:(i:Int)<(G.rs.length:Int):=by omega
     have hgw:g<w.heap.size:=Nat.lt_of_lt_of_le hgB HB.out
     have HGG:=aA (And.intro lw hgw)
     have q0:=fun y:OnP [w.heap.size,g] wr=>(y.cell (p:=⟨w.heap.size,0,none⟩) (by simp)).trans (HW.out.c 0 _ rfl)
     have q1:=fun y:OnP [w.heap.size,g] wr=>(y.cell (p:=⟨w.heap.size,1,none⟩) (by simp)).trans (HW.out.c 1 _ rfl)
     have q2:=fun y:OnP [w.heap.size,g] wr=>(y.cell (p:=⟨w.heap.size,2,none⟩) (by simp)).trans (HW.out.c 2 _ rfl)
     have q3:=fun y:OnP [w.heap.size,g] wr=>(y.cell (p:=⟨w.heap.size,3,none⟩) (by simp)).trans (HW.out.c 3 _ rfl)
     have x1:=fun y:OnP [w.heap.size,g] wr=>(y.cell (p:=⟨g,o+i*3+1,none⟩) (by simp)).trans k1
     have HON:Hid (∀x,Below (w.heap.size+1) wr x→∃y:OnP [w.heap.size,g] wr,x=y.1):=aA (fun x h=>⟨⟨x,fun q hg=>by simp at hg;rcases hg with rfl|rfl;exact h.block _ (by omega);exact h.block _ (by omega)⟩,rfl⟩)
     have HD:Hid (Below (w.heap.size+1) wr wr.drew):=aA (aB (Below.refl _ _) 1)
     have HOD:Hid (aJ wr.drew (w.heap.size+1) VO (oiN (Gm.ltree G (r.take k)))):=HO
     have HLX:Hid ((oiN (Gm.ltree G (r.take k))).length≤1000000000000):=aA (by rw[zaJ];have:=HLz.out;omega)
     have HWD:Hid (One w #[.slice AT G.ts.length cT,.slice AN G.ns.length cN,.slice (some ⟨g,o,none⟩) G.rs.length cR,.int .i64 G.st] wr.drew):=aA (HW.out.drewN 1)
     clear h0 hm HSTz HT1 hcall hE hbi hmn hcb hc hri hxe
     go_upto_region 7 with fail
     clear k0 kb k1
     refine CalmN.region_tree (fun x=>∃y:OnP [w.heap.size,g] wr,x=y.1) (.one [0,1,4,5,6,7,8,9,10,11] 2 (.one [] 3 (.one [] 12 (.one [] 13 (.fin [14]))))) (by kernel_rfl) (by kernel_rfl) (fun _ _ d _ _ h=>by cases d <;> exact h) (HON.out _ HD.out) ?_
     simp only[CalmN.wpT,CalmN.wpSt,CalmN.pickOps,List.getElem?_toArray,List.getElem?_cons_zero,List.getElem?_cons_succ]
     repeat (go_big_quiet_step (fail))
     refine wpQuiet_nil ?_
     generalize wr.drew=wd at *
     clear q0 q1 q2 q3 x1
     intro KK hKK
     rw[if_pos (by rfl)]
     have HAL:=aA ((HD.out.alloc (show w.heap.size+1≤wd.heap.size from HWD.out.size) (.cells #[.int .i64 (i:Int)] 3)))
     go_wp2_with fail
     refine hKK _ _ (HON.out _ HAL.out) (fun x=>∃y:OnP [w.heap.size,g] wr,x=y.1) (fun _ h=>h) (HON.out _ HAL.out) ?_
     clear hKK
     refine wpQuiet_nil ?_
     intro KK hKK
     rw[if_pos (by rfl)]
     have HBS:Hid (w.heap.size+1≤(wd.alloc (.cells #[.int .i64 (i:Int)] 3)).heap.size):=aA (by have:=HWD.out.size;simp;omega)
     refine zhb (.tmp 29) (.tmp 31) _ rfl Tryz.underlying30 (w.heap.size+1) _ _ rfl (HOD.out.alloc _) _ 1 (i:Int) rfl (World.cell?_alloc_new _ _ _ 0) HLX.out HBS.out ?_
     intro v2 w2 ho2 hg2
     have HW2:=aA (One.grownI (HWD.out.alloc _) (HOD.out.alloc _) hg2 (Nat.le_refl _) HBS.out)
     have HA2:=aA (Below.grown HAL.out hg2 HBS.out (fun k e=>(World.ownsRow.lt (HOD.out.alloc (.cells #[.int .i64 (i:Int)] 3)) k e).1))
     have HO2:=aA ho2
     clear ho2 hg2
     refine hKK _ _ (HON.out _ HA2.out) (fun x=>∃y:OnP [w.heap.size,g] wr,x=y.1) (fun _ h=>h) (HON.out _ HA2.out) ?_
     clear hKK HAL HD HOD HWD
     refine wpQuiet_nil ?_
     intro KK hKK
     rw[if_pos (by rfl)]
     have HC2:=aA (HCL.out A' c' w2 HW2.out.below (HRX.out.keep (fun g o hg=>HW2.out.below.cell (p:=⟨g,o,none⟩) (Nat.lt_of_lt_of_le hg HB.out))) (by have:=HLz.out;rw[HEz.out,List.length_cons]at this;omega))
     go_frame
     go_wp2_with fail
     refine HC2.out.mono ?_;rintro _ w3 ⟨v3,rfl,ho3,hb3⟩
     obtain⟨A3,c3,rfl,_,_,hr3⟩:=ho3.form
     have HW3:=aA (HW2.out.on hb3)
     have HA3:=aA (HA2.out.trans (hb3.mono HW2.out.size))
     have HO3:=aA (HO2.out.below hb3 (Nat.le_refl _))
     have HR3:=aA hr3
     clear ho3 hb3 hr3
     go_wp2_with fail
     refine hKK _ _ (HON.out _ HA3.out) (fun x=>∃y:OnP [w.heap.size,g] wr,x=y.1) (fun _ h=>h) (HON.out _ HA3.out) ?_
     clear hKK
     refine wpQuiet_nil ?_
     intro KK hKK
     rw[if_pos (by rfl)]
     have HL3:Hid ((oiN (Gm.ltree G (r.take k))++[(i:Int)]).length+(oiN (Gm.ltree G x.r)).length≤1000000000000):=aA (by have:=HLz.out;rw[HEz.out,List.length_cons]at this;simp;omega)
     refine zfB (.tmp 32) (.tmp 41) _ rfl Tryz.underlying30 (w.heap.size+1) _ _ rfl HO3.out _ _ c3 A3 (oiN (Gm.ltree G x.r)) rfl (zaJ _).symm HR3.out HL3.out HW3.out.size ?_
     intro v4 w4 ho4 hg4
     have HW4:=aA (One.grownI HW3.out HO3.out hg4 (Nat.le_refl _) HW3.out.size)
     have HA4:=aA (Below.grown HA3.out hg4 HW3.out.size (fun k e=>(World.ownsRow.lt HO3.out k e).1))
     have HO4:Hid (aJ w4 (w.heap.size+1) v4 (oiN (Gm.ltree G (r.take (k+1))))):=aA (by
      have e:oiN (Gm.ltree G (r.take k))++[(i:Int)]++oiN (Gm.ltree G x.r)=oiN (Gm.ltree G (r.take (k+1))):=by rw[HTz.out,HEz.out];simp
      rw[←e];exact ho4)
     clear ho4 hg4
     refine hKK _ _ (HON.out _ HA4.out) (fun x=>∃y:OnP [w.heap.size,g] wr,x=y.1) (fun _ h=>h) (HON.out _ HA4.out) ?_
     clear hKK
     go_frame
     repeat (go_big_quiet_step (fail))
     refine wpQuiet_nil ?_
     go_wp2
     go_roundw
     case rel=>exact⟨k+1,_,rfl,hlt,by go_num,HO4,HW4⟩
     case measure=>simp[intOf];omega
    ·have d0:decide (z<0)=false:=decide_eq_false h0
     have HO2:Hid (aJ wr (w.heap.size+1) VO (oiN (Gm.ltree G (r.take (k+1))))):=aA (by rw[HTz.out,HT1.out (by omega),List.append_nil];exact HO.out)
     clear h0 HSTz HT1
     go_wp2
     go_roundw
     case rel=>exact⟨k+1,_,rfl,hlt,by go_num,HO2,HW⟩
     case measure=>simp[intOf];omega
   ·obtain rfl:k=r.length:=by omega
    rw[List.take_length]at HO
    go_wp2
    go_ret
    exact⟨_,rfl,HO.out.mono (by omega),HW.out.below⟩
theorem zeQ (v:Value) (G:Gm.Gr) (hok:Gm.Ok G) (hf:Gm.Fit G):∀(f:Nat) (r:List Int),Gm.Pr G r→Gm.topH (Gm.hts G) r≤f→(∀z∈r,Gm.In z)→r.length≤1000000→∀(A A2:Option Addr) (c c2 B Br Bb:Nat) (w:World),aN w B v G→B≤w.heap.size→RdI w Br A r→Br≤w.heap.size→RdI w Bb A2 (Gm.best G (Gm.hts G))→Bb≤w.heap.size→(Gm.lword G r).length≤1000000 →
  Calls Tryz.prog 36 #[v,.slice A r.length c,.slice A2 G.ns.length c2] w (zgp (Gm.lword G r) w):=by
 intro f
 induction f with
 | zero|succ f ih =>
  intro r hPr hTop hin hrl A A2 c c2 B Br Bb w hg hB hri hBr hrb hBb hlen
  have hg0:=hg
  obtain⟨AT,cT,AN,cN,AR,cR,rfl,_,⟨hlN,hmN⟩,⟨hlR,hmR⟩,_,_,hR⟩:=hg
  have HS0:=aA (One.start w #[.slice AT G.ts.length cT,.slice AN G.ns.length cN,.slice AR G.rs.length cR,.int .i64 G.st])
  have HST:=aA (fun(m:Nat) (z:Int) (hz:z∈r) (hm:-1-z=(m:Int))=>(show ∃i x,∃hi:i<G.rs.length,G.rs[i]=x∧(Gm.best G (Gm.hts G)).getD m 0=(i:Int)∧m<G.ns.length∧Gm.lword G [z]=Gm.lword G x.r ∧
    ∀(A':Option Addr) (c':Nat) (y:World),Below w.heap.size w y→RdI y B A' x.r→(Gm.lword G x.r).length≤1000000→Calls Tryz.prog 36 #[.agg #[.slice AT G.ts.length cT,.slice AN G.ns.length cN,.slice AR G.rs.length cR,.int .i64 G.st],.slice A' x.r.length c',.slice A2 G.ns.length c2] y (zgp (Gm.lword G x.r) y) from by
   have hz0:z = -1-(m:Int):=by omega
   have hz1:z<0:=by omega
   have hp3:=hPr z hz hz1
   have ht3:=Gm.topH_le.1 hTop z hz hz1
   have hpos:=Gm.hts_pos hok (j:=m) (by rw[←hm];exact hp3)
   have hmm:(-1-z).toNat=m:=by omega
   rw[hmm]at ht3
   first
   | omega
   |obtain⟨i,hi,hbi,_,hlr,hjn⟩:=Gm.best_i hok (j:=m) (by rw[←hm];exact hp3)
    rw[←hz0]at hlr
    have hE:=Gm.lword_non hok hz1 hp3
    have hPr2:=(Gm.lrt_of hok hz1 hp3).1
    have hTop2:=Gm.top_lt hok hz1 hp3 (f:=f) (by rw[hmm];exact ht3)
    rw[hlr]at hPr2 hTop2
    rw[hlr]at hE
    have hrl2:=(Gm.rule_in (hok.rr _ (List.getElem_mem hi))).1
    have hin2:=(hf.r _ (List.getElem_mem hi)).2.2
    exact⟨i,_,hi,rfl,hbi,hjn,hE,fun A' c' y hb hrd hl=>ih _ hPr2 hTop2 hin2 (by omega) A' A2 c' c2 B B Bb y (hg0.below hb hB) (Nat.le_trans hB hb.size) hrd (Nat.le_trans hB hb.size) (hrb.below hb hBb) (Nat.le_trans hBb hb.size) hl⟩))
  have HTK:=aA (fun k (hk:k<r.length)=>Gm.lword_take hok hPr hk)
  have HTL:=aA (fun k=>Gm.lword_len hok hPr k)
  have HTT:=aA (fun(z:Int) (hz:¬z<0)=>Gm.lword_term hok hz)
  have HNL:=aA (Gm.lword_nil G hok)
  have HLEN:=aA hlen
  have HRl:=aA hR
  have HB:=aA hB
  have HRI:=aA hri
  have HBr:=aA hBr
  have HRB:=aA hrb
  have HBb:=aA hBb
  have hrlen:(r.length:Int)≤9223372036854775807:=by omega
  obtain⟨w1,hw1⟩:∃y,y=w.alloc (.cells #[.slice AT G.ts.length cT,.slice AN G.ns.length cN,.slice AR G.rs.length cR,.int .i64 G.st] 26):=⟨_,rfl⟩
  rw[←hw1]at HS0
  have HO0:Hid (aJ w1 (w.heap.size+1) (.slice none 0 0) (Gm.lword G (r.take 0))):=aA (by rw[List.take_zero,HNL.out];exact aJ.nil _ _)
  clear hg0 hPr hTop hin hrl hB hri hBr hrb hBb hlen hR
  go_enter Tryz.func36,Tryz.ntmps36
  go_upto_region 1 with fail
  rw[←hw1]
  clear hw1
  go_wp2
  go_loopw [8,7] (fun vi vo wr=>∃(k:Nat) (VO:Value),VO=vo∧k≤r.length∧vi=.int .i64 k∧Hid (aJ wr (w.heap.size+1) VO (Gm.lword G (r.take k)))∧Hid (One w #[.slice AT G.ts.length cT,.slice AN G.ns.length cN,.slice AR G.rs.length cR,.int .i64 G.st] wr)) (fun vi _ _=>r.length-(intOf vi).toNat)
  case atStart=>exact⟨0,_,rfl,Nat.zero_le _,rfl,HO0,HS0⟩
  case round =>
   clear HO0 HS0
   obtain⟨k,VO,rfl,hk,rfl,HO,HW⟩:=hrel
   by_cases hlt:k<r.length
   ·obtain⟨gA,oA,rfl,hgA,hcA⟩:=(HRI.out.below HW.out.below HBr.out) (by omega)
    have k0:=hcA k hlt
    rw[L.gd_lt hlt]at k0
    have hmz:=List.getElem_mem hlt
    have HTz:=aA (HTK.out k hlt)
    have HT1:=aA (HTT.out r[k])
    have HSTz:=aA (fun(m:Nat) (hm:-1-r[k]=(m:Int))=>HST.out m r[k] hmz hm)
    have HLz:Hid ((Gm.lword G (r.take k)).length+(Gm.lword G [r[k]]).length≤1000000):=aA (by
     have h1:=HTL.out (k+1)
     rw[HTz.out,List.length_append]at h1
     have h2:=HLEN.out
     omega)
    have lw:w.heap.size<wr.heap.size:=HW.out.size
    clear hcA hmz
    generalize r[k]=z at *
    by_cases h0:z<0
    ·obtain⟨m,hm⟩:∃m:Nat,-1-z=(m:Int):=⟨(-1-z).toNat,by omega⟩
     obtain⟨i,x,hi,hxe,hbi,hmn,hE,hcall⟩:=HSTz.out m hm
     obtain⟨gb,ob,rfl,hgb,hcb⟩:=(HRB.out.below HW.out.below HBb.out) (by rw[Gm.best_len];omega)
     have kb:=hcb m (by rw[Gm.best_len];exact hmn)
     rw[hbi]at kb
     obtain⟨g,o,rfl,hgB,hc⟩:=HRl.out (by omega)
     obtain⟨_,⟨A',c',k1,_,_,hri⟩,_⟩:=hc i hi
     rw[hxe]at k1 hri
     have k1:=(HW.out.below.cell (p:=⟨g,o+i*3+1,none⟩) (Nat.lt_of_lt_of_le hgB HB.out)).trans k1
     have HCL:=aA hcall
     have HEz:=aA hE
     have HRX:=aA hri
     have d0:decide (0≤z)=false:=decide_eq_false (by omega)
     have dw:IntKind.i64.wrap (-1-z)=(m:Int):=by rw[hm];exact IntWalk.i64_in _ (by have:=HRl;omega)
     have hm3:(m:Int)<(G.ns.length:Int):=by omega
     have hi3:(i:Int)<(G.rs.length:Int):=by omega
     have hgw:g<w.heap.size:=Nat.lt_of_lt_of_le hgB HB.out
     have HGG:=aA (And.intro lw hgw)
     have hAw:gA<w.heap.size:=Nat.lt_of_lt_of_le hgA HBr.out
     have hbw:gb<w.heap.size:=Nat.lt_of_lt_of_le hgb HBb.out
     have q0:=fun y:OnP [w.heap.size,g,gA,gb] wr=>(y.cell (p:=⟨w.heap.size,0,none⟩) (by simp)).trans (HW.out.c 0 _ rfl)
     have q1:=fun y:OnP [w.heap.size,g,gA,gb] wr=>(y.cell (p:=⟨w.heap.size,1,none⟩) (by simp)).trans (HW.out.c 1 _ rfl)
     have q2:=fun y:OnP [w.heap.size,g,gA,gb] wr=>(y.cell (p:=⟨w.heap.size,2,none⟩) (by simp)).trans (HW.out.c 2 _ rfl)
     have q3:=fun y:OnP [w.heap.size,g,gA,gb] wr=>(y.cell (p:=⟨w.heap.size,3,none⟩) (by simp)).trans (HW.out.c 3 _ rfl)
     have x1:=fun y:OnP [w.heap.size,g,gA,gb] wr=>(y.cell (p:=⟨g,o+i*3+1,none⟩) (by simp)).trans k1
     have x2:=fun y:OnP [w.heap.size,g,gA,gb] wr=>(y.cell (p:=⟨gA,oA+k,none⟩) (by simp)).trans k0
     have x3:=fun y:OnP [w.heap.size,g,gA,gb] wr=>(y.cell (p:=⟨gb,ob+m,none⟩) (by simp)).trans kb
     have HON:Hid (∀x,Below (w.heap.size+1) wr x→∃y:OnP [w.heap.size,g,gA,gb] wr,x=y.1):=aA (fun x h=>⟨⟨x,fun q hg=>by simp at hg;rcases hg with rfl|rfl|rfl|rfl;exact h.block _ (by omega);exact h.block _ (by omega);exact h.block _ (by omega);exact h.block _ (by omega)⟩,rfl⟩)
     have HD:Hid (Below (w.heap.size+1) wr wr.drew):=aA (aB (Below.refl _ _) 1)
     have HOD:Hid (aJ wr.drew (w.heap.size+1) VO (Gm.lword G (r.take k))):=HO
     have HWD:Hid (One w #[.slice AT G.ts.length cT,.slice AN G.ns.length cN,.slice (some ⟨g,o,none⟩) G.rs.length cR,.int .i64 G.st] wr.drew):=aA (HW.out.drewN 1)
     clear hm HSTz HT1 hcall hE hbi hmn hcb hc hri hxe
     go_upto_region 7 with fail
     refine CalmN.region_tree (fun x=>∃y:OnP [w.heap.size,g,gA,gb] wr,x=y.1) (.one [0,1,2,3,4,5,6,7,8,9,10,11,12,13,14,15] 16 (.one [] 17 (.fin [18]))) (by kernel_rfl) (by kernel_rfl) (fun _ _ d _ _ h=>by cases d <;> exact h) (HON.out _ HD.out) ?_
     simp only[CalmN.wpT,CalmN.wpSt,CalmN.pickOps,List.getElem?_toArray,List.getElem?_cons_zero,List.getElem?_cons_succ]
     repeat (go_big_quiet_step (fail))
     refine wpQuiet_nil ?_
     generalize wr.drew=wd at *
     clear q0 q1 q2 q3 x1 x2 x3 k0 kb k1
     intro KK hKK
     rw[if_pos (by rfl)]
     have HC2:=aA (HCL.out A' c' wd HWD.out.below (HRX.out.keep (fun g o hg=>HWD.out.below.cell (p:=⟨g,o,none⟩) (Nat.lt_of_lt_of_le hg HB.out))) (by have:=HLz.out;rw[HEz.out]at this;omega))
     go_wp2_with fail
     refine HC2.out.mono ?_;rintro _ w3 ⟨v3,rfl,ho3,hb3⟩
     obtain⟨A3,c3,rfl,_,_,hr3⟩:=ho3.form
     have HW3:=aA (HWD.out.on hb3)
     have HA3:=aA (HD.out.trans (hb3.mono HWD.out.size))
     have HO3:=aA (HOD.out.below hb3 (Nat.le_refl _))
     have HR3:=aA hr3
     clear ho3 hb3 hr3
     go_wp2_with fail
     refine hKK _ _ (HON.out _ HA3.out) (fun x=>∃y:OnP [w.heap.size,g,gA,gb] wr,x=y.1) (fun _ h=>h) (HON.out _ HA3.out) ?_
     clear hKK
     refine wpQuiet_nil ?_
     intro KK hKK
     rw[if_pos (by rfl)]
     have HL3:Hid ((Gm.lword G (r.take k)).length+(Gm.lword G x.r).length≤1000000000000):=aA (by have:=HLz.out;rw[HEz.out]at this;omega)
     refine zfB (.tmp 27) (.tmp 43) _ rfl Tryz.underlying30 (w.heap.size+1) _ _ rfl HO3.out _ _ c3 A3 (Gm.lword G x.r) rfl rfl HR3.out HL3.out HW3.out.size ?_
     intro v4 w4 ho4 hg4
     have HW4:=aA (One.grownI HW3.out HO3.out hg4 (Nat.le_refl _) HW3.out.size)
     have HA4:=aA (Below.grown HA3.out hg4 HW3.out.size (fun k e=>(World.ownsRow.lt HO3.out k e).1))
     have HO4:Hid (aJ w4 (w.heap.size+1) v4 (Gm.lword G (r.take (k+1)))):=aA (by rw[HTz.out,HEz.out];exact ho4)
     clear ho4 hg4
     refine hKK _ _ (HON.out _ HA4.out) (fun x=>∃y:OnP [w.heap.size,g,gA,gb] wr,x=y.1) (fun _ h=>h) (HON.out _ HA4.out) ?_
     clear hKK
     go_frame
     repeat (go_big_quiet_step (fail))
     refine wpQuiet_nil ?_
     go_wp2
     go_roundw
     case rel=>exact⟨k+1,_,rfl,hlt,by go_num,HO4,HW4⟩
     case measure=>simp[intOf];omega
    ·have d0:decide (0≤z)=true:=decide_eq_true (by omega)
     have HTq:=aA (HTz.out.trans (by rw[HT1.out (by omega)]))
     have HLX:Hid ((Gm.lword G (r.take k)).length≤1000000000000):=aA (by have:=HLz.out;omega)
     have HBS:Hid (∀o:Obj,w.heap.size+1≤(wr.alloc o).heap.size):=aA (fun o=>by have:=HW.out.size;simp;omega)
     clear h0 HSTz HT1 HTz HLz
     go_wp2_with (at_builtin;refine zaU rfl (.tmp 20) (.tmp 25) _ rfl Tryz.underlying30 (w.heap.size+1) _ _ rfl (HO.out.alloc _) _ 1 z rfl (World.cell?_alloc_new _ _ _ 0) HLX.out (HBS.out _) ?_;intro v2 w2 ho2 hg2)
     have HW2:=aA (One.grownI (HW.out.alloc _) (HO.out.alloc _) hg2 (Nat.le_refl _) (HBS.out _))
     have HO2:Hid (aJ w2 (w.heap.size+1) v2 (Gm.lword G (r.take (k+1)))):=aA (by rw[HTq.out];exact ho2)
     clear ho2 hg2
     go_wp2
     go_roundw
     case rel=>exact⟨k+1,_,rfl,hlt,by go_num,HO2,HW2⟩
     case measure=>simp[intOf];omega
   ·obtain rfl:k=r.length:=by omega
    rw[List.take_length]at HO
    go_wp2
    go_ret
    exact⟨_,rfl,HO.out.mono (by omega),HW.out.below⟩
end Go.Proofs.YtcgclkndkahgaaaGreat
