/- Part of the proofs over this program: LsRep, LsSize, LsKnown, LsWrite, LsAns, GramOpen. -/
import Derived.Test.YtcgclkndkahgaaaKG
namespace Go.Proofs.Ytcgclkndkahgaaa
set_option maxRecDepth 100000
set_option maxHeartbeats 40000000
open Go.RowKit
def zcM (v:Int) (N k:Nat):List Int:=List.replicate k v++List.replicate (N-k) 0
theorem zdz {v:Int} {N k:Nat} (h:k≤N):(zcM v N k).length=N:=by unfold zcM;simp;omega
theorem zft (v:Int) (N:Nat):zcM v N N=List.replicate N v:=by unfold zcM;simp
theorem zez {v:Int} {N k c:Nat} (h:k+c≤N):((zcM v N k).map (Value.int .i64)).take k++List.replicate c (Value.int .i64 v)++((zcM v N k).map (Value.int .i64)).drop (k+c)=(zcM v N (k+c)).map (Value.int .i64):=by
 unfold zcM
 rw[List.map_append,List.map_append,List.map_replicate,List.map_replicate,List.map_replicate,List.map_replicate]
 rw[List.take_append_of_le_length (by simp),List.drop_append,List.take_of_length_le (by simp),List.drop_of_length_le (by simp),List.nil_append,List.length_replicate,List.drop_replicate,List.replicate_append_replicate]
 congr 2
 omega
theorem zfs {v:Int} {N k j:Nat} (hj:j<k):(zcM v N k).getD j 0=v:=by
 unfold zcM
 rw[List.getD_eq_getElem?_getD,List.getElem?_append_left (by simpa using hj),List.getElem?_replicate,if_pos hj];rfl
theorem zeP (n:Nat) (h:n≤1000000):IntKind.u64.wrap (n:Int)=(n:Int):=by
 unfold IntKind.wrap
 simp[IntKind.bits,IntKind.signed]
 omega
theorem zfr (w:World) (g N k:Nat) (v:Int) (hk:k<N) (hu:UBI w g (zcM v N k)) :
  ∃w',(Builtin.copy_ #[27,27] 3 #[.slice (some ⟨g,k,none⟩) (N-k) (N-k),.slice (some ⟨g,0,none⟩) k N]).run Try.prog w=.ok (goInt ((min k (N-k):Nat):Int)) w'∧UBI w' g (zcM v N (k+min k (N-k)))∧w.grownBy w' (some g):=by
 have h:=run_copy_row (P:=Try.prog) w 27 27 3 3 g k (N-k) (N-k) ⟨g,0,none⟩ k N _ _ (List.replicate (min k (N-k)) (Value.int .i64 v)) (by kernel_rfl) (by kernel_rfl) hu (by simp)
  (fun j u hj=>by
   rw[List.getElem?_replicate]at hj
   split at hj
   ·rename_i hl
    injection hj with hj
    subst hj
    have e:((⟨g,0,none⟩:Addr).add j)=⟨g,j,none⟩:=by unfold Addr.add;by_cases h0:j=0 <;> simp[h0]
    rw[e,hu.cell j (by rw[zdz (by omega)];omega),zfs (by omega)]
   ·cases hj)
  (by simp[zdz (Nat.le_of_lt hk)];omega) (by intro u hu;rw[(List.mem_replicate.1 hu).2];rfl)
 rw[List.length_replicate]at h
 refine⟨_,h,?_,zbg w g _⟩
 unfold UBI
 rw[setRow_heap w g _ _ _ _ hu]
 have:=zez (v:=v) (N:=N) (k:=k) (c:=min k (N-k)) (by omega)
 rw[←this]
theorem zdf (v:Int) (N cx B:Nat) (A:Option Addr) (w:World) (hr:RdI w B A [v]) (hB:B≤w.heap.size) (hN:1≤N) (hN2:N≤1000000) :
  Calls Try.prog 29 #[.slice A 1 cx,.int .i64 (N:Int)] w fun e w'=>∃g,e=.returned (.slice (some ⟨g,0,none⟩) N N)∧w.heap.size≤g∧UBI w' g (List.replicate N v)∧Below w.heap.size w w':=by
 have HR:=aA hr
 have HB:=aA hB
 have e1:1*N / 18446744073709551616=0:=by omega
 have e2:1*N % 18446744073709551616=N:=by omega
 have HM:=aA (show Calls Try.prog 45 #[.int .u64 1,.int .u64 (N:Int)] w (fun e w'=>e=.returned (.tuple #[.int .u64 0,.int .u64 (N:Int)])∧w'=w) from by have h:=Try.bits_Mul 1 N (by decide) (by omega) w;rw[e1,e2]at h;exact h)
 have hc1:IntKind.u64.wrap (1:Int)=1:=zeP 1 (by decide)
 have hc2:IntKind.u64.wrap (N:Int)=(N:Int):=zeP N hN2
 have hc3:IntKind.i64.wrap (N:Int)=(N:Int):=IntWalk.i64_in _ (by omega)
 have hd1:decide (9223372036854775807<N)=false:=decide_eq_false (by omega)
 have hd2:decide ((9223372036854775807:Int)<(N:Int))=false:=decide_eq_false (by omega)
 have HN:=aA hN
 have HN2:=aA hN2
 clear hr hB hN hN2 e1 e2
 go_enter Try.func29,Try.ntmps29
 go_upto_region 6 with fail
 refine HM.out.mono ?_;rintro _ w ⟨rfl,rfl⟩
 go_upto_region 6 with fail
 have hNp:=HN.out
 have hNq:=HN2.out
 go_upto_region 7 with(at_make;refine zgk rfl (.tmp 29) (.tmp 29) _ rfl Try.underlying27 N _ _ rfl rfl rfl rfl (by omega) ?_;intro w2 hu2 hb2 hlt2)
 have HU2:=aA hu2
 have HB2:=aA hb2
 have HGW:=aA (show w.heap.size<w2.heap.size from hlt2)
 have HL1:=aA (show N=(List.replicate N (0:Int)).length by simp)
 have HL2:=aA (show [v].length≤(List.replicate N (0:Int)).length by simp;omega)
 have HR2:=aA (HR.out.below HB2.out HB.out)
 clear hu2 hb2 hlt2
 go_upto_region 8 with(with_reducible show wpList _ _ _ _ _ _;refine zgu rfl (.tmp 31) (.tmp 32) _ _ rfl Try.underlying27 w.heap.size N N 1 cx B A (List.replicate N 0) [v] rfl rfl HL1.out rfl HU2.out HR2.out HL2.out ?_;intro w3 hu3 hg3)
 have HU3:Hid (UBI w3 w.heap.size (zcM v N 1)):=aA (by
  have e:[v]++(List.replicate N (0:Int)).drop [v].length=zcM v N 1:=by unfold zcM;simp
  rw[←e];exact hu3)
 have HB3:Hid (Below w.heap.size w w3):=aA (zcd HB2.out hg3 (Nat.le_refl _) (Nat.le_of_lt HGW.out))
 have HG3:=aA (Nat.lt_of_lt_of_le HGW.out hg3.size)
 clear hu3 hg3 HU2 HL1 HL2 HR2 hNp hd1 hd2 hc1 hc2 HM
 go_wp2
 go_loopw [8] (fun vi wr=>∃k:Nat,1≤k∧k≤N∧vi=.int .i64 k∧Hid (UBI wr w.heap.size (zcM v N k))∧Hid (Below w.heap.size w wr)) (fun vi _=>N-(intOf vi).toNat)
 case atStart=>exact⟨1,Nat.le_refl _,HN.out,rfl,HU3,HB3⟩
 case round =>
  clear HU3 HB3 HG3
  obtain⟨k,hk1,hk,rfl,HU,HB⟩:=hrel
  by_cases hlt:k<N
  ·have S1:∀y:World,(Instr.sliceAt 27 (.slice (some ⟨w.heap.size,0,none⟩) N N) (some (.int .i64 k)) none none).run Try.prog y=.ok (.slice (some ⟨w.heap.size,k,none⟩) (N-k) (N-k)) y:=fun y=>by
    have h:=zbv y (some ⟨w.heap.size,0,none⟩) N N k hk
    have e:((⟨w.heap.size,0,none⟩:Addr).add k)=⟨w.heap.size,k,none⟩:=by unfold Addr.add;by_cases h0:k=0 <;> simp[h0]
    unfold dropA at h
    rw[if_neg (by omega),Option.map_some,e]at h
    exact h
   have S2:=fun y:World=>zcG y (some ⟨w.heap.size,0,none⟩) N N k hk
   have HC:=aA (fun y hu=>zfr y w.heap.size N k v hlt hu)
   obtain⟨c,hc⟩:∃c,c=min k (N-k):=⟨_,rfl⟩
   rw[←hc]at HC
   have hcp:1≤c∧k+c≤N:=by omega
   have hwr:IntKind.i64.wrap ((k:Int)+(c:Int))=((k+c:Nat):Int):=by rw[IntWalk.i64_in _ (by omega)];omega
   have HCP:=aA hcp
   have HSB:Hid (∀x,∃y:OnP [] wr,x=y.1):=aA (fun x=>⟨⟨x,fun g h=>by cases h⟩,rfl⟩)
   clear hc hcp
   generalize hnk:N-k=nk at *
   clear hnk
   obtain⟨kc,hkc⟩:∃kc,kc=k+c:=⟨_,rfl⟩
   rw[←hkc]at HC HCP hwr
   have HVK:=aA (show Value.int .i64 ((k:Int)+(c:Int))=.int .i64 (kc:Int) by rw[hkc];simp)
   go_upto_region 9 with fail
   refine CalmN.region_tree (fun x=>∃y:OnP [] wr,x=y.1) (.one [0,1,2,3,4,5,6] 7 (.fin [8,9])) (by kernel_rfl) (by kernel_rfl) (fun _ _ d _ _ h=>by cases d <;> exact h) (HSB.out _) ?_
   simp only[CalmN.wpT,CalmN.wpSt,CalmN.pickOps,List.getElem?_toArray,List.getElem?_cons_zero,List.getElem?_cons_succ]
   repeat (go_big_quiet_step (fail))
   refine wpQuiet_nil ?_
   have HUD:Hid (UBI wr.drew w.heap.size (zcM v N k)):=HU
   have HBD:Hid (Below w.heap.size w wr.drew):=aA (aB HB.out 1)
   generalize wr.drew=wd at *
   intro KK hKK
   rw[if_pos (by rfl)]
   obtain⟨we,hrun,hue,hge⟩:=HC.out wd HUD.out
   unfold Oper.wp
   simp[execOp,resolve,invoke,builtin,Act.eval,hrun,Result.andThen]
   have HUE:=aA hue
   have HBE:Hid (Below w.heap.size w we):=aA (zcd HBD.out hge (Nat.le_refl _) HBD.out.size)
   clear hrun hue hge
   refine hKK _ _ (HSB.out _) (fun x=>∃y:OnP [] wr,x=y.1) (fun _ h=>h) (HSB.out _) ?_
   clear hKK
   go_frame
   repeat (go_big_quiet_step (fail))
   refine wpQuiet_nil ?_
   clear HC S1 S2
   go_wp2
   go_roundw
   case rel=>exact⟨kc,by have:=HCP.out;omega,by have:=HCP.out;omega,HVK.out,HUE,HBE⟩
   case measure=>simp[intOf];have:=HCP.out;omega
  ·obtain rfl:k=N:=by omega
   rw[zft]at HU
   go_wp2
   go_ret
   exact⟨_,rfl,Nat.le_refl _,HU.out,HB.out⟩
structure SzS (w wr:World) (cs:Array Value) (a b:Nat):Prop where
 kb:wr.heap[w.heap.size]?=some (.cells cs 48 (0,0))
 rb:wr.heap[w.heap.size+1]?=some (.cells #[.int .i64 0,.int .i64 0] 51 (0,0))
 sb:wr.heap[w.heap.size+1+1]?=some (.cells #[.int .i64 (a:Int),.int .i64 (b:Int)] 51 (0,0))
 be:Below w.heap.size w wr
section
variable {w wr wt:World} {cs:Array Value} {a b:Nat}
theorem SzS.lt (h:SzS w wr cs a b):w.heap.size+3≤wr.heap.size:=by have:=(Array.getElem?_eq_some_iff.1 h.sb).1;omega
theorem SzS.on (h:SzS w wr cs a b) (k:Below wr.heap.size wr wt):SzS w wt cs a b:=by
 have:=h.lt
 exact⟨(k.block _ (by omega)).trans h.kb,(k.block _ (by omega)).trans h.rb,(k.block _ (by omega)).trans h.sb,h.be.trans (k.mono (by omega))⟩
theorem SzS.set (h:SzS w wr cs a b) (c d:Nat):SzS w ((wr.setCell ⟨w.heap.size+1+1,0,none⟩ (.int .i64 (c:Int))).setCell ⟨w.heap.size+1+1,1,none⟩ (.int .i64 (d:Int))) cs c d:=by
 have h1:=h.sb
 refine⟨?_,?_,heap_setCell_same _ _ 1 _ _ _ (heap_setCell_same wr _ 0 _ _ _ h1),(h.be.setCell (p:=⟨w.heap.size+1+1,0,none⟩) (by simp only;omega) _).setCell (p:=⟨w.heap.size+1+1,1,none⟩) (by simp only;omega) _⟩
 ·exact(Below.heap_setCell _ _ _ _ (by simp only;omega)).trans ((Below.heap_setCell _ _ _ _ (by simp only;omega)).trans h.kb)
 ·exact(Below.heap_setCell _ _ _ _ (by simp only;omega)).trans ((Below.heap_setCell _ _ _ _ (by simp only;omega)).trans h.rb)
theorem SzS.start (w:World) (cs:Array Value):SzS w (((w.alloc (.cells cs 48)).alloc (.cells #[.int .i64 0,.int .i64 0] 51)).alloc (.cells #[.int .i64 0,.int .i64 0] 51)) cs 0 0:=by
 have e1:(w.alloc (.cells cs 48)).heap.size=w.heap.size+1:=by simp
 have e2:((w.alloc (.cells cs 48)).alloc (.cells #[.int .i64 0,.int .i64 0] 51)).heap.size=w.heap.size+1+1:=by simp
 have b1:=heap_alloc_new w (.cells cs 48)
 have b2:=heap_alloc_new (w.alloc (.cells cs 48)) (.cells #[.int .i64 0,.int .i64 0] 51)
 have b3:=heap_alloc_new ((w.alloc (.cells cs 48)).alloc (.cells #[.int .i64 0,.int .i64 0] 51)) (.cells #[.int .i64 0,.int .i64 0] 51)
 rw[e1]at b2
 rw[e2]at b3
 refine⟨?_,?_,b3,(((Below.refl w.heap.size w).alloc (Nat.le_refl _) _).alloc (by simp) _).alloc (by simp;omega) _⟩
 ·exact(Below.heap_alloc _ _ _ (by rw[e2];omega)).trans ((Below.heap_alloc _ _ _ (by rw[e1];omega)).trans b1)
 ·exact(Below.heap_alloc _ _ _ (by rw[e2];omega)).trans b2
end
theorem zbK (l:List Int) (S:List (Nat×Nat)) (AR A:Option Addr) (nR cR gH gL gS n c B:Nat) (w:World) (hr:RdI w B A l) (hB:B≤w.heap.size) (hS:UBQ 51 szc w gS S) (hin:∀z∈l,Gm.In z) (hs:∀z∈l,z<0→-1-z<(S.length:Int)) (hb:∀j,(S.getD j (0,0)).1≤1000∧(S.getD j (0,0)).2≤1000) (hn:n=S.length) (hl:l.length≤1000000) :
  Calls Try.prog 18 #[.agg #[.slice AR nR cR,.slice (some ⟨gH,0,none⟩) n n,.slice (some ⟨gL,0,none⟩) n n,.slice (some ⟨gS,0,none⟩) n n],.slice A l.length c] w fun e w'=>e=.returned (.agg #[.int .i64 ((Gm.szF S l).1:Int),.int .i64 ((Gm.szF S l).2:Int)])∧Below w.heap.size w w':=by
 obtain⟨cs,hcs⟩:∃cs:Array Value,cs=#[.slice AR nR cR,.slice (some ⟨gH,0,none⟩) n n,.slice (some ⟨gL,0,none⟩) n n,.slice (some ⟨gS,0,none⟩) n n]:=⟨_,rfl⟩
 have HS0:=aA (SzS.start w cs)
 obtain⟨w1,hw1⟩:∃y,y=((w.alloc (.cells cs 48)).alloc (.cells #[.int .i64 0,.int .i64 0] 51)).alloc (.cells #[.int .i64 0,.int .i64 0] 51):=⟨_,rfl⟩
 rw[←hw1]at HS0
 have HC3:=aA (show cs[3]?=some (.slice (some ⟨gS,0,none⟩) n n) by rw[hcs];rfl)
 have HR:=aA hr
 have HB:=aA hB
 have HSS:=aA hS
 have HIN:=aA hin
 have HSN:=aA (fun z (hz:z∈l) (h:z<0)=>(show ∃m:Nat,-1-z=(m:Int)∧m<S.length from⟨(-1-z).toNat,by omega,by have:=hs z hz h;omega⟩))
 have HSB:=aA hb
 have HN:=aA hn
 have HTK:=aA (fun k (h:k<l.length)=>Gm.szF_take (S:=S) h)
 have HLE:=aA (Gm.szF_le S)
 have HI:=aA (fun z w=>zaC z w)
 have HX:=aA (fun z (hz:z∈l) w=>zaX z (hin z hz).1 (hin z hz).2 w)
 have HAN:=aA (fun a b c d w ha hb hc hd=>zdH a b c d w ha hb hc hd)
 have hlen:(l.length:Int)≤9223372036854775807:=by omega
 rw[hcs]at hw1
 clear hcs hr hB hS hin hs hb hn hl
 go_enter Try.func18,Try.ntmps18
 go_upto_region 2 with fail
 rw[←hw1]
 clear hw1
 go_wp2
 go_loopw [10] (fun vi wr=>∃(k a b:Nat),k≤l.length∧vi=.int .i64 k∧Hid ((a,b)=Gm.szF S (l.take k))∧Hid (SzS w wr cs a b)) (fun vi _=>l.length-(intOf vi).toNat)
 case atStart=>exact⟨0,0,0,Nat.zero_le _,rfl,aA (by simp[Gm.szF]),HS0⟩
 case round =>
  clear HS0
  obtain⟨k,a,b,hk,rfl,HK,HW⟩:=hrel
  have hd:w.heap.size+3≤wr.heap.size:=HW.out.lt
  by_cases hlt:k<l.length
  ·obtain⟨g,o,rfl,hgb,hc⟩:=(HR.out.below HW.out.be HB.out) (by omega)
   have k0:=hc k hlt
   rw[L.gd_lt hlt]at k0
   have hmz:=List.getElem_mem hlt
   have HIz:=aA (fun w=>HI.out l[k] w)
   have HXz:=aA (fun w=>HX.out l[k] hmz w)
   have HSz:=aA (fun(h:l[k]<0)=>HSN.out l[k] hmz h)
   have HT:=aA (HTK.out k hlt)
   rw[←HK.out]at HT
   have hab:a≤301∧b≤61:=by have:=HLE.out (l.take k);rw[←HK.out]at this;exact this
   have HAB:=aA hab
   clear hc hmz hab
   generalize l[k]=z at *
   by_cases h0:z<0
   ·obtain⟨m,he,hmn⟩:=HSz.out h0
    rw[he]at HXz
    have hSm:=HSB.out m
    have hgS:gS<w.heap.size:=HSS.out.lt
    have hmN:m<n:=by have:=HN.out;omega
    have hc0:=HSS.out.cell za7 m 0 hmn _ rfl
    have hc1:=HSS.out.cell za7 m 1 hmn _ rfl
    have ez:Gm.szOf S z=S.getD m (0,0):=by unfold Gm.szOf;rw[if_pos h0,he,Int.toNat_natCast]
    have es:S.getD m (0,0)=S[m]:=by simp[List.getD_eq_getElem?_getD,hmn]
    rw[ez]at HT
    rw[←es]at hc0 hc1
    rw[decide_eq_true h0]at HIz
    generalize S.getD m (0,0)=sm at *
    obtain⟨c1,d1⟩:=sm
    have HAN2:=aA (fun y=>HAN.out a b c1 d1 y (by have:=HAB.out;omega) (by have:=HAB.out;omega) (by have:=hSm.1;simp only at this;omega) (by have:=hSm.2;simp only at this;omega))
    have HT2:Hid ((min (a+c1) 301,min (b+d1) 61)=Gm.szF S (l.take (k+1))):=aA HT.out.symm
    generalize min (a+c1) 301=a2 at *
    generalize min (b+d1) 61=b2 at *
    have q3:=fun y:OnP [w.heap.size,gS] wr=>y.row (j:=3) (by simp) HW.out.kb HC3.out
    have u0:=fun y:OnP [w.heap.size,gS] wr=>(y.cell (p:=⟨gS,m*2,none⟩) (by simp)).trans ((HW.out.be.cell (p:=⟨gS,m*2,none⟩) hgS).trans hc0)
    have u1:=fun y:OnP [w.heap.size,gS] wr=>(y.cell (p:=⟨gS,m*2+1,none⟩) (by simp)).trans ((HW.out.be.cell (p:=⟨gS,m*2+1,none⟩) hgS).trans hc1)
    have HON:Hid (∀x,x.heap[w.heap.size]?=wr.heap[w.heap.size]?→x.heap[gS]?=wr.heap[gS]?→∃y:OnP [w.heap.size,gS] wr,x=y.1):=aA (fun x h1 h2=>⟨⟨x,fun g hg=>by simp at hg;rcases hg with rfl|rfl;exact h1;exact h2⟩,rfl⟩)
    have HOB:Hid (∀x,Below wr.heap.size wr x→∃y:OnP [w.heap.size,gS] wr,x=y.1):=aA (fun x h=>HON.out x (h.block _ (by omega)) (h.block _ (by omega)))
    have HD:Hid (Below wr.heap.size wr wr.drew):=aA (aB (Below.refl _ _) 1)
    clear h0 he ez es hSm hc0 hc1 HT HSz
    go_upto_region 6 with fail
    refine(HIz.out _).mono ?_;rintro _ wr ⟨rfl,rfl⟩
    go_upto_region 6 with fail
    refine CalmN.region_tree (fun x=>∃y:OnP [w.heap.size,gS] wr,x=y.1) (.two [1,2,3] 0 (.one [] 4 (.one [5,6] 7 (.one [] 8 (.fin [])))) 4 (.one [5,6] 0 (.one [] 7 (.one [] 8 (.fin []))))) (by kernel_rfl) (by kernel_rfl) (fun _ _ d _ _ h=>by cases d <;> exact h) (HOB.out _ HD.out) ?_
    rw[CalmN.wpT]
    simp only[CalmN.pickOps,List.getElem?_toArray,List.getElem?_cons_zero,List.getElem?_cons_succ]
    repeat (go_big_quiet_step (fail))
    refine wpQuiet_nil ?_
    obtain⟨wd,hwd⟩:∃y,y=wr.drew:=⟨_,rfl⟩
    rw[←hwd]at HD ⊢
    have HWD:=aA (HW.out.on HD.out)
    clear hwd
    refine⟨?_,?_⟩
    case' refine_1 =>
     simp only[CalmN.wpSt,CalmN.wpT,CalmN.pickOps,List.getElem?_toArray,List.getElem?_cons_zero,List.getElem?_cons_succ]
     intro KK hKK
     rw[if_pos (by rfl)]
     have s0:=cell_of_row wd _ 0 _ _ _ HWD.out.sb
     have s1:=cell_of_row wd _ 1 _ _ _ HWD.out.sb
     have ls:=HWD.out.lt
     go_wp2_with fail
     refine hKK _ _ (HOB.out _ HD.out) (fun x=>∃y:OnP [w.heap.size,gS] wr,x=y.1) (fun _ h=>h) (HOB.out _ HD.out) ?_
     clear hKK s0 s1 ls
     refine wpQuiet_nil ?_
     intro KK hKK
     rw[if_pos (by rfl)]
     go_wp2_with fail
     refine(HXz.out wd).mono ?_;rintro _ wd ⟨rfl,rfl⟩
     go_wp2_with fail
     refine hKK _ _ (HOB.out _ HD.out) (fun x=>∃y:OnP [w.heap.size,gS] wr,x=y.1) (fun _ h=>h) (HOB.out _ HD.out) ?_
     clear hKK
     repeat (go_big_quiet_step (fail))
     refine wpQuiet_nil ?_
    case' refine_2 =>
     simp only[CalmN.wpSt,CalmN.wpT,CalmN.pickOps,List.getElem?_toArray,List.getElem?_cons_zero,List.getElem?_cons_succ]
     intro KK hKK
     rw[if_pos (by rfl)]
     go_wp2_with fail
     refine(HXz.out wd).mono ?_;rintro _ wd ⟨rfl,rfl⟩
     go_wp2_with fail
     refine hKK _ _ (HOB.out _ HD.out) (fun x=>∃y:OnP [w.heap.size,gS] wr,x=y.1) (fun _ h=>h) (HOB.out _ HD.out) ?_
     clear hKK
     repeat (go_big_quiet_step (fail))
     refine wpQuiet_nil ?_
     intro KK hKK
     rw[if_pos (by rfl)]
     have s0:=cell_of_row wd _ 0 _ _ _ HWD.out.sb
     have s1:=cell_of_row wd _ 1 _ _ _ HWD.out.sb
     have ls:=HWD.out.lt
     go_wp2_with fail
     refine hKK _ _ (HOB.out _ HD.out) (fun x=>∃y:OnP [w.heap.size,gS] wr,x=y.1) (fun _ h=>h) (HOB.out _ HD.out) ?_
     clear hKK s0 s1 ls
     refine wpQuiet_nil ?_
    all_goals
     intro KK hKK
     rw[if_pos (by rfl)]
     go_wp2_with fail
     refine(HAN2.out wd).mono ?_;rintro _ we ⟨rfl,hb⟩
     have HE:=aA (HD.out.trans (hb.mono HD.out.size))
     clear hb
     go_wp2_with fail
     refine hKK _ _ (HOB.out _ HE.out) (fun x=>∃y:OnP [w.heap.size,gS] wr,x=y.1) (fun _ h=>h) (HOB.out _ HE.out) ?_
     clear hKK
     refine wpQuiet_nil ?_
     intro KK hKK
     rw[if_pos (by rfl)]
     have HWE:=aA (HW.out.on HE.out)
     have HWF:=aA (HWE.out.set a2 b2)
     have HF:=aA (HON.out _ (HWF.out.kb.trans HW.out.kb.symm) ((Below.heap_setCell _ _ _ gS (by simp only;omega)).trans ((Below.heap_setCell _ _ _ gS (by simp only;omega)).trans (HE.out.block gS (by omega)))))
     have f0:=frozen_of_row we _ 0 _ _ HWE.out.sb
     have f1:=frozen_of_row we _ 1 _ _ HWE.out.sb
     have s0:=cell_of_row we _ 0 _ _ _ HWE.out.sb
     have s1:=cell_of_row we _ 1 _ _ _ HWE.out.sb
     have ls:=HWE.out.lt
     go_wp2_with fail
     refine hKK _ _ HF.out (fun x=>∃y:OnP [w.heap.size,gS] wr,x=y.1) (fun _ h=>h) HF.out ?_
     clear hKK s0 s1 f0 f1 ls
     refine wpQuiet_nil ?_
     obtain⟨wf,hwf⟩:∃y,y=(we.setCell ⟨w.heap.size+1+1,0,none⟩ (.int .i64 (a2:Int))).setCell ⟨w.heap.size+1+1,1,none⟩ (.int .i64 (b2:Int)):=⟨_,rfl⟩
     rw[←hwf]at HWF ⊢
     clear HF hwf q3 u0 u1
     go_wp2
     go_roundw
     case rel=>exact⟨k+1,a2,b2,hlt,by go_num,HT2,HWF⟩
     case measure=>simp[intOf];omega
   ·have ez:Gm.szOf S z=(0,1):=by unfold Gm.szOf;rw[if_neg h0]
    rw[ez]at HT
    rw[decide_eq_false h0]at HIz
    have HAN2:=aA (fun y=>HAN.out a b 0 1 y (by have:=HAB.out;omega) (by have:=HAB.out;omega) (by omega) (by omega))
    have HT2:Hid ((min (a+0) 301,min (b+1) 61)=Gm.szF S (l.take (k+1))):=aA HT.out.symm
    generalize min (a+0) 301=a2 at *
    generalize min (b+1) 61=b2 at *
    have s0:=cell_of_row wr _ 0 _ _ _ HW.out.sb
    have s1:=cell_of_row wr _ 1 _ _ _ HW.out.sb
    have HBD:∀w:World,(Instr.build 51 #[(1,Value.int .i64 1)]).run Try.prog w=.ok (.agg #[.int .i64 0,.int .i64 1]) w:=fun w=>run_build w 51 _ _ (by kernel_rfl)
    clear h0 ez HT HSz HXz
    go_upto_region 7 with fail
    refine(HIz.out _).mono ?_;rintro _ wr ⟨rfl,rfl⟩
    go_upto_region 7 with fail
    go_wp2_with fail
    refine(HAN2.out _).mono ?_;rintro _ we ⟨rfl,hb⟩
    have HWE:=aA (HW.out.on hb)
    clear hb s0 s1 hd
    have HWF:=aA (HWE.out.set a2 b2)
    have f0:=frozen_of_row we _ 0 _ _ HWE.out.sb
    have f1:=frozen_of_row we _ 1 _ _ HWE.out.sb
    have s0:=cell_of_row we _ 0 _ _ _ HWE.out.sb
    have s1:=cell_of_row we _ 1 _ _ _ HWE.out.sb
    have ls:=HWE.out.lt
    go_wp2
    go_roundw
    case rel=>exact⟨k+1,a2,b2,hlt,by go_num,HT2,HWF⟩
    case measure=>simp[intOf];omega
  ·obtain rfl:k=l.length:=by omega
   rw[List.take_length]at HK
   have s0:=cell_of_row wr _ 0 _ _ _ HW.out.sb
   have s1:=cell_of_row wr _ 1 _ _ _ HW.out.sb
   have f0:=frozen_of_row wr _ 0 _ _ HW.out.rb
   have f1:=frozen_of_row wr _ 1 _ _ HW.out.rb
   have r0:=cell_of_row wr _ 0 _ _ _ HW.out.rb
   have r1:=cell_of_row wr _ 1 _ _ _ HW.out.rb
   have hrb:=heap_setCell_same _ _ 1 _ _ (.int .i64 (b:Int)) (heap_setCell_same wr _ 0 _ _ (.int .i64 (a:Int)) HW.out.rb)
   have g0:=cell_of_row _ _ 0 _ _ _ hrb
   have g1:=cell_of_row _ _ 1 _ _ _ hrb
   have HB2:=aA ((HW.out.be.setCell (p:=⟨w.heap.size+1,0,none⟩) (by simp only;omega) (.int .i64 (a:Int))).setCell (p:=⟨w.heap.size+1,1,none⟩) (by simp only;omega) (.int .i64 (b:Int)))
   clear hrb
   go_wp2
   refine bodyPost_ret (v:=.agg #[.int .i64 (a:Int),.int .i64 (b:Int)]) (by simp[results,Try.results18,go_sem,g0,g1]) rfl ?_
   exact⟨by rw[←HK.out],HB2.out⟩
end Go.Proofs.Ytcgclkndkahgaaa
namespace Go.Proofs.Ytcgclkndkahgaaa
set_option maxRecDepth 100000
set_option maxHeartbeats 40000000
open Go.RowKit
theorem zgS:(Try.prog.info? 51).map (fun i=>(i.zero,i.size,i.bytes))=some (some (.agg #[.int .i64 0,.int .i64 0]),2,16):=by kernel_rfl
theorem zfk (w:World) (t:TypeId) (ht:Try.prog.underlying t=some (.slice 3)) (n:Nat) (hn:n≤35184372088832) :
  ∃w',(Instr.makeSlice t (.int .i64 n) (.int .i64 n)).run Try.prog w=.ok (.slice (some ⟨w.heap.size,0,none⟩) n n) w'∧UBI w' w.heap.size (List.replicate n 0)∧Below w.heap.size w w':=by
 obtain⟨i,hi,hz0,hz1,hz2⟩:=info_parts zeN
 obtain⟨w',hrun,hown,hgr⟩:=run_make_full (P:=Try.prog) w w.heap.size t 3 i (.int .i64 0) 1 ht hi hz0 hz1 .i64 .i64 n (by rw[hz2];omega) (by unfold maxLen;omega) (Nat.le_refl _)
 refine⟨w',hrun,?_,⟨hgr.os,hgr.tape,hgr.output,hgr.size,fun k hk=>hgr.block k hk (by simp)⟩⟩
 refine zbt (base:=w.heap.size) (n:=n) ?_
 rw[za0]
 have e:(madeCells (Value.int IntKind.i64 0).cells (n*1)).toList=List.replicate n (Value.int .i64 0):=by
  rw[Nat.mul_one];exact toList_madeCells_one _ _
 rw[e]at hown;exact hown
theorem zgN {w:World} {o:Oper} {a:Act} {K:Act→World→Prop} {Q:Exit→Act→World→Prop} (l c:Operand) (t:TypeId) (hop:o.op=Op.makeSlice t l c) (ht:Try.prog.underlying t=some (.slice 3)) (n:Nat) (hl:a.eval l=.int .i64 n) (hc:a.eval c=.int .i64 n) (hn:n≤35184372088832)
  (hK:∀w',UBI w' w.heap.size (List.replicate n 0)→Below w.heap.size w w'→K (a.put o.dst (.slice (some ⟨w.heap.size,0,none⟩) n n)) w'):Oper.wp Try.prog o a w K Q:=by
 obtain⟨w',hrun,h1,h2⟩:=zfk w t ht n hn
 unfold Oper.wp
 simp[execOp,hop,hl,hc,hrun,Result.andThen]
 exact hK w' h1 h2
structure JL (w2:World) (m n:Nat) (AR:Option Addr) (cR:Nat) (todo:List Nat) (wx:World) (x4 x13 x14 x16 x18 x19:Value) (gH gB gL gS c:Nat):Prop where
 t:∀k∈todo,k=3∨k=4∨k=6∨k=8∨k=9∨k=10
 b:Below w2.heap.size w2 wx
 h3:3 ∉ todo→x13=.slice (some ⟨gH,0,none⟩) n n∧w2.heap.size≤gH∧UBI wx gH (List.replicate n 0)
 h4:4 ∉ todo→x14=.slice (some ⟨gB,0,none⟩) 1 1∧w2.heap.size≤gB∧UBI wx gB [-1]
 h6:6 ∉ todo→4 ∉ todo∧x16=.slice (some ⟨gL,0,none⟩) n n∧w2.heap.size≤gL∧UBI wx gL (List.replicate n (-1))
 h8:8 ∉ todo→x18=.slice (some ⟨gS,0,none⟩) n n∧w2.heap.size≤gS∧UBQ 51 szc wx gS (List.replicate n (0,0))
 h9:9 ∉ todo→3 ∉ todo∧6 ∉ todo∧8 ∉ todo∧x19=.agg #[.slice AR m cR,.slice (some ⟨gH,0,none⟩) n n,.slice (some ⟨gL,0,none⟩) n n,.slice (some ⟨gS,0,none⟩) n n]
 h10:10 ∉ todo→x4=.pointer (some ⟨c,0,none⟩)∧w2.heap.size≤c∧wx.heap[c]?=some (.cells #[.slice none 0 0,.slice none 0 0,.slice none 0 0,.slice none 0 0] 48 (0,0))
 d:3 ∉ todo→6 ∉ todo→gH≠gL
section
variable {w2 wx w':World} {m n:Nat} {AR:Option Addr} {cR:Nat} {todo:List Nat} {x4 x13 x14 x16 x18 x19:Value} {gH gB gL gS c:Nat}
theorem JL.put3 (h:JL w2 m n AR cR todo wx x4 x13 x14 x16 x18 x19 gH gB gL gS c) (hm:3∈todo) (hb:Below wx.heap.size wx w') (hu:UBI w' wx.heap.size (List.replicate n 0)):JL w2 m n AR cR (todo.erase 3) w' x4 (.slice (some ⟨wx.heap.size,0,none⟩) n n) x14 x16 x18 x19 wx.heap.size gB gL gS c where
 t k hk:=h.t k (List.mem_of_mem_erase hk)
 b:=h.b.trans (hb.mono h.b.size)
 h3 _:=⟨rfl,h.b.size,hu⟩
 h4 q:=by obtain⟨a1,a2,a3⟩:=h.h4 (aE q (by decide));exact⟨a1,a2,zaa hb a3⟩
 h6 q:=by obtain⟨a0,a1,a2,a3⟩:=h.h6 (aE q (by decide));exact⟨fun m=>a0 (List.mem_of_mem_erase m),a1,a2,zaa hb a3⟩
 h8 q:=by obtain⟨a1,a2,a3⟩:=h.h8 (aE q (by decide));exact⟨a1,a2,zaa hb a3⟩
 h9 q:=absurd hm (h.h9 (aE q (by decide))).1
 h10 q:=by obtain⟨a1,a2,a3⟩:=h.h10 (aE q (by decide));exact⟨a1,a2,zaa hb a3⟩
 d _ q:=by have:=UBI.lt (h.h6 (aE q (by decide))).2.2.2;omega
theorem JL.put4 (h:JL w2 m n AR cR todo wx x4 x13 x14 x16 x18 x19 gH gB gL gS c) (hm:4∈todo):JL w2 m n AR cR (todo.erase 4) (wx.alloc (.cells #[.int .i64 (-1)] 3)) x4 x13 (.slice (some ⟨wx.heap.size,0,none⟩) 1 1) x16 x18 x19 gH wx.heap.size gL gS c where
 t k hk:=h.t k (List.mem_of_mem_erase hk)
 b:=h.b.alloc h.b.size _
 h3 q:=by obtain⟨a1,a2,a3⟩:=h.h3 (aE q (by decide));exact⟨a1,a2,a3.alloc _⟩
 h4 _:=⟨rfl,h.b.size,heap_alloc_new wx _⟩
 h6 q:=absurd hm (h.h6 (aE q (by decide))).1
 h8 q:=by obtain⟨a1,a2,a3⟩:=h.h8 (aE q (by decide));exact⟨a1,a2,zaa ((Below.refl _ wx).alloc (Nat.le_refl _) _) a3⟩
 h9 q:=by obtain⟨a1,a2,a3,a4⟩:=h.h9 (aE q (by decide));exact absurd hm (h.h6 a2).1
 h10 q:=by obtain⟨a1,a2,a3⟩:=h.h10 (aE q (by decide));exact⟨a1,a2,zaa ((Below.refl _ wx).alloc (Nat.le_refl _) _) a3⟩
 d q1 q2:=h.d (aE q1 (by decide)) (aE q2 (by decide))
theorem JL.put6 (h:JL w2 m n AR cR todo wx x4 x13 x14 x16 x18 x19 gH gB gL gS c) (hm:6∈todo) (m4:4 ∉ todo) (hb:Below wx.heap.size wx w') {g:Nat} (hg:wx.heap.size≤g) (hu:UBI w' g (List.replicate n (-1))):JL w2 m n AR cR (todo.erase 6) w' x4 x13 x14 (.slice (some ⟨g,0,none⟩) n n) x18 x19 gH gB g gS c where
 t k hk:=h.t k (List.mem_of_mem_erase hk)
 b:=h.b.trans (hb.mono h.b.size)
 h3 q:=by obtain⟨a1,a2,a3⟩:=h.h3 (aE q (by decide));exact⟨a1,a2,zaa hb a3⟩
 h4 q:=by obtain⟨a1,a2,a3⟩:=h.h4 (aE q (by decide));exact⟨a1,a2,zaa hb a3⟩
 h6 _:=⟨fun m=>m4 (List.mem_of_mem_erase m),rfl,Nat.le_trans h.b.size hg,hu⟩
 h8 q:=by obtain⟨a1,a2,a3⟩:=h.h8 (aE q (by decide));exact⟨a1,a2,zaa hb a3⟩
 h9 q:=absurd hm (h.h9 (aE q (by decide))).2.1
 h10 q:=by obtain⟨a1,a2,a3⟩:=h.h10 (aE q (by decide));exact⟨a1,a2,zaa hb a3⟩
 d q _:=by have:=UBI.lt (h.h3 (aE q (by decide))).2.2;omega
theorem JL.put8 (h:JL w2 m n AR cR todo wx x4 x13 x14 x16 x18 x19 gH gB gL gS c) (hm:8∈todo) (hb:Below wx.heap.size wx w') (hu:UBQ 51 szc w' wx.heap.size (List.replicate n (0,0))):JL w2 m n AR cR (todo.erase 8) w' x4 x13 x14 x16 (.slice (some ⟨wx.heap.size,0,none⟩) n n) x19 gH gB gL wx.heap.size c where
 t k hk:=h.t k (List.mem_of_mem_erase hk)
 b:=h.b.trans (hb.mono h.b.size)
 h3 q:=by obtain⟨a1,a2,a3⟩:=h.h3 (aE q (by decide));exact⟨a1,a2,zaa hb a3⟩
 h4 q:=by obtain⟨a1,a2,a3⟩:=h.h4 (aE q (by decide));exact⟨a1,a2,zaa hb a3⟩
 h6 q:=by obtain⟨a0,a1,a2,a3⟩:=h.h6 (aE q (by decide));exact⟨fun m=>a0 (List.mem_of_mem_erase m),a1,a2,zaa hb a3⟩
 h8 _:=⟨rfl,h.b.size,hu⟩
 h9 q:=absurd hm (h.h9 (aE q (by decide))).2.2.1
 h10 q:=by obtain⟨a1,a2,a3⟩:=h.h10 (aE q (by decide));exact⟨a1,a2,zaa hb a3⟩
 d q1 q2:=h.d (aE q1 (by decide)) (aE q2 (by decide))
theorem JL.put9 (h:JL w2 m n AR cR todo wx x4 x13 x14 x16 x18 x19 gH gB gL gS c) (m3:3 ∉ todo) (m6:6 ∉ todo) (m8:8 ∉ todo):JL w2 m n AR cR (todo.erase 9) wx x4 x13 x14 x16 x18 (.agg #[.slice AR m cR,.slice (some ⟨gH,0,none⟩) n n,.slice (some ⟨gL,0,none⟩) n n,.slice (some ⟨gS,0,none⟩) n n]) gH gB gL gS c where
 t k hk:=h.t k (List.mem_of_mem_erase hk)
 b:=h.b
 h3 _:=h.h3 m3
 h4 q:=h.h4 (aE q (by decide))
 h6 _:=by obtain⟨a0,a1⟩:=h.h6 m6;exact⟨fun m=>a0 (List.mem_of_mem_erase m),a1⟩
 h8 _:=h.h8 m8
 h9 _:=⟨fun m=>m3 (List.mem_of_mem_erase m),fun m=>m6 (List.mem_of_mem_erase m),fun m=>m8 (List.mem_of_mem_erase m),rfl⟩
 h10 q:=h.h10 (aE q (by decide))
 d _ _:=h.d m3 m6
theorem JL.put10 (h:JL w2 m n AR cR todo wx x4 x13 x14 x16 x18 x19 gH gB gL gS c):JL w2 m n AR cR (todo.erase 10) (wx.alloc (.cells #[.slice none 0 0,.slice none 0 0,.slice none 0 0,.slice none 0 0] 48)) (.pointer (some ⟨wx.heap.size,0,none⟩)) x13 x14 x16 x18 x19 gH gB gL gS wx.heap.size where
 t k hk:=h.t k (List.mem_of_mem_erase hk)
 b:=h.b.alloc h.b.size _
 h3 q:=by obtain⟨a1,a2,a3⟩:=h.h3 (aE q (by decide));exact⟨a1,a2,a3.alloc _⟩
 h4 q:=by obtain⟨a1,a2,a3⟩:=h.h4 (aE q (by decide));exact⟨a1,a2,a3.alloc _⟩
 h6 q:=by obtain⟨a0,a1,a2,a3⟩:=h.h6 (aE q (by decide));exact⟨fun m=>a0 (List.mem_of_mem_erase m),a1,a2,a3.alloc _⟩
 h8 q:=by obtain⟨a1,a2,a3⟩:=h.h8 (aE q (by decide));exact⟨a1,a2,zaa ((Below.refl _ wx).alloc (Nat.le_refl _) _) a3⟩
 h9 q:=by obtain⟨a1,a2,a3,a4⟩:=h.h9 (aE q (by decide));exact⟨fun m=>a1 (List.mem_of_mem_erase m),fun m=>a2 (List.mem_of_mem_erase m),fun m=>a3 (List.mem_of_mem_erase m),a4⟩
 h10 _:=⟨rfl,h.b.size,heap_alloc_new wx _⟩
 d q1 q2:=h.d (aE q1 (by decide)) (aE q2 (by decide))
end
structure KS (w2 wr:World) (m:Nat) (AR:Option Addr) (cR gH gL gS c:Nat) (H L:List Int) (S:List (Nat×Nat)) (n:Nat):Prop where
 b:Below w2.heap.size w2 wr
 kb:wr.heap[c]?=some (.cells #[.slice AR m cR,.slice (some ⟨gH,0,none⟩) n n,.slice (some ⟨gL,0,none⟩) n n,.slice (some ⟨gS,0,none⟩) n n] 48 (0,0))
 uh:UBI wr gH H
 ul:UBI wr gL L
 us:UBQ 51 szc wr gS S
section
variable {w2 wr wt:World} {m:Nat} {AR:Option Addr} {cR gH gL gS c:Nat} {H L:List Int} {S:List (Nat×Nat)} {n:Nat}
theorem KS.on (h:KS w2 wr m AR cR gH gL gS c H L S n) (k:Below wr.heap.size wr wt):KS w2 wt m AR cR gH gL gS c H L S n :=
 ⟨h.b.trans (k.mono h.b.size),(k.block _ (Array.getElem?_eq_some_iff.1 h.kb).1).trans h.kb,h.uh.below k h.uh.lt,h.ul.below k h.ul.lt,h.us.below k h.us.lt⟩
theorem KS.set (h:KS w2 wr m AR cR gH gL gS c H L S n) (hg:w2.heap.size≤gH∧w2.heap.size≤gL) (hne:gH≠gL∧gH≠gS∧gL≠gS∧gH≠c∧gL≠c∧gS≠c) (j:Nat) (a b:Int):KS w2 ((wr.setCell ⟨gH,j,none⟩ (.int .i64 a)).setCell ⟨gL,j,none⟩ (.int .i64 b)) m AR cR gH gL gS c (H.set j a) (L.set j b) S n:=by
 obtain⟨h1,h2,h3,h4,h5,_⟩:=hne
 refine⟨(h.b.setCell (p:=⟨gH,j,none⟩) hg.1 _).setCell (p:=⟨gL,j,none⟩) hg.2 _,?_,UBI.far (h.uh.set_ j a) h1 _,UBI.set_ (UBI.far h.ul (fun e=>h1 e.symm) _) j b,UBQ.far (UBQ.far h.us (fun e=>h2 e.symm) _) (fun e=>h3 e.symm) _⟩
 exact(Below.heap_setCell _ _ _ c (fun e=>h5 e.symm)).trans ((Below.heap_setCell _ _ _ c (fun e=>h4 e.symm)).trans h.kb)
theorem KS.setS (h:KS w2 wr m AR cR gH gL gS c H L S n) (hg:w2.heap.size≤gS) (hne:gH≠gL∧gH≠gS∧gL≠gS∧gH≠c∧gL≠c∧gS≠c) (j a b:Nat):KS w2 ((wr.setCell ⟨gS,j*2,none⟩ (.int .i64 (a:Int))).setCell ⟨gS,j*2+1,none⟩ (.int .i64 (b:Int))) m AR cR gH gL gS c H L (S.set j (a,b)) n:=by
 obtain⟨_,h2,h3,_,_,h6⟩:=hne
 refine⟨(h.b.setCell (p:=⟨gS,j*2,none⟩) hg _).setCell (p:=⟨gS,j*2+1,none⟩) hg _,?_,UBI.far (UBI.far h.uh h2 _) h2 _,UBI.far (UBI.far h.ul h3 _) h3 _,h.us.set2 za7 j (a,b) _ _ rfl⟩
 exact(Below.heap_setCell _ _ _ c (fun e=>h6 e.symm)).trans ((Below.heap_setCell _ _ _ c (fun e=>h6 e.symm)).trans h.kb)
end
def zhj (G:Gm.Gr) (B:Nat) (w:World) (e:Ending) (w':World):Prop:=∃AR cR gH gL gS,e=.returned (.agg #[.slice AR G.rs.length cR,.slice (some ⟨gH,0,none⟩) G.ns.length G.ns.length,.slice (some ⟨gL,0,none⟩) G.ns.length G.ns.length,.slice (some ⟨gS,0,none⟩) G.ns.length G.ns.length])∧w.heap.size≤gH∧w.heap.size≤gL∧w.heap.size≤gS∧UBI w' gH (Gm.htI G)∧UBI w' gL (Gm.best G (Gm.hts G))∧UBQ 51 szc w' gS (Gm.szL G)∧zc1 w' B AR G.rs∧Below w.heap.size w w'
theorem zaw (v:Value) (G:Gm.Gr) (B:Nat) (w:World) (hg:aS w B v G) (hf:Gm.Fit G) (hok:Gm.Ok G) (hB:B≤w.heap.size) :
  Calls Try.prog 16 #[v] w (zhj G B w):=by
 have HPL:=aA (fun(x:World) (h:Below w.heap.size w x)=>zdb v G B x (hg.below h hB) hf hok (Nat.le_trans hB h.size))
 obtain⟨AT,cT,AN,cN,AR,cR,rfl,_,⟨hlN,hmN⟩,_,_,_,hR⟩:=hg
 have HS0:=aA ((One.start w #[.slice AT G.ts.length cT,.slice AN G.ns.length cN,.slice AR G.rs.length cR,.int .i64 G.st]).alloc (.cells #[.slice none 0 0,.slice none 0 0,.slice none 0 0,.slice none 0 0] 48))
 have HRl:=aA hR
 have HB:=aA hB
 have HFT:=aA hf
 have HOK:=aA hok
 have HN:Hid (1≤G.ns.length∧G.ns.length≤16):=aA (by have:=(Gm.nons_iff G).1 HOK.out.n;exact⟨this.1,this.2.1⟩)
 have hnn:=HN.out
 have hlen:(G.ns.length:Int)≤9223372036854775807:=by omega
 obtain⟨w2,hw2⟩:∃y,y=(w.alloc (.cells #[.slice AT G.ts.length cT,.slice AN G.ns.length cN,.slice AR G.rs.length cR,.int .i64 G.st] 26)).alloc (.cells #[.slice none 0 0,.slice none 0 0,.slice none 0 0,.slice none 0 0] 48):=⟨_,rfl⟩
 rw[←hw2]at HS0
 have HRS:Hid (w2.heap[w.heap.size+1]?=some (.cells #[.slice none 0 0,.slice none 0 0,.slice none 0 0,.slice none 0 0] 48 (0,0))):=aA (by rw[hw2];have:=heap_alloc_new (w.alloc (.cells #[.slice AT G.ts.length cT,.slice AN G.ns.length cN,.slice AR G.rs.length cR,.int .i64 G.st] 26)) (.cells #[.slice none 0 0,.slice none 0 0,.slice none 0 0,.slice none 0 0] 48);simpa using this)
 have hz2:w2.heap.size=w.heap.size+2:=by rw[hw2];simp
 have HZ2:=aA hz2
 have HW2:Hid (Below w.heap.size w w2):=aA HS0.out.below
 have hd1:w.heap.size<w2.heap.size:=by omega
 have q0:=fun y:Calm.On w2.heap.size w2=>(y.2.cell (p:=⟨w.heap.size,0,none⟩) hd1).trans (HS0.out.c 0 _ rfl)
 have q1:=fun y:Calm.On w2.heap.size w2=>(y.2.cell (p:=⟨w.heap.size,1,none⟩) hd1).trans (HS0.out.c 1 _ rfl)
 have q2:=fun y:Calm.On w2.heap.size w2=>(y.2.cell (p:=⟨w.heap.size,2,none⟩) hd1).trans (HS0.out.c 2 _ rfl)
 have q3:=fun y:Calm.On w2.heap.size w2=>(y.2.cell (p:=⟨w.heap.size,3,none⟩) hd1).trans (HS0.out.c 3 _ rfl)
 have HREP:=aA (fun(y:World) (g:Nat) (hu:UBI y g [-1])=>zdf (-1) G.ns.length 1 y.heap.size (some ⟨g,0,none⟩) y (hu.rd0 hu.lt) (Nat.le_refl _) hnn.1 (by omega))
 have HI2:=aA (show(Value.agg #[.int .i64 0,.int .i64 0]).cells.size=2 from rfl)
 clear hf hok hR hB hz2
 go_enter Try.func16,Try.ntmps16
 go_upto_region 2 with fail
 rw[←hw2]
 clear hw2
 refine CalmN.region_dep (fun x=>∃y:Calm.On w2.heap.size w2,x=y.1) [0,1,2,5,7] [3,4,6,8,9,10] [(6,4),(9,3),(9,6),(9,8)] (.one [] 11 (.fin []))
  (fun todo a wx=>∃x4 x13 x14 x16 x18 x19 gH gB gL gS c,a = {tmps:=#[.agg #[.slice AT G.ts.length cT,.slice AN G.ns.length cN,.slice AR G.rs.length cR,.int .i64 G.st],.pointer (some ⟨w.heap.size,0,none⟩),.pointer (some ⟨w.heap.size+1,0,none⟩),.int .i64 G.ns.length,x4,undef,undef,.pointer (some ⟨w.heap.size,1,none⟩),.slice AN G.ns.length cN,.int .i64 G.ns.length,.pointer (some ⟨w.heap.size,2,none⟩),.slice AR G.rs.length cR,.int .i64 G.ns.length,x13,x14,.int .i64 G.ns.length,x16,.int .i64 G.ns.length,x18,x19,undef,undef,undef,undef,undef,undef,undef,undef,undef,undef,undef,undef,undef,undef,undef,undef,undef,undef,undef,undef,undef,undef,undef,undef,undef,undef,undef,undef,undef,undef,undef,undef,undef,undef,undef,undef],defers:=[]}∧JL w2 G.rs.length G.ns.length AR cR todo wx x4 x13 x14 x16 x18 x19 gH gB gL gS c)
  (by kernel_rfl) (by kernel_rfl) (fun _ _ d _ _ h=>by cases d <;> exact h) ⟨⟨w2.drew,aB (Below.refl _ _) 1⟩,rfl⟩ ?_ ?_ ?_
 ·simp only[CalmN.pickOps,List.getElem?_toArray,List.getElem?_cons_zero,List.getElem?_cons_succ]
  repeat (go_big_quiet_step (fail))
  refine wpQuiet_nil ?_
  exact⟨undef,undef,undef,undef,undef,undef,0,0,0,0,0,rfl,⟨by simp,aB (Below.refl _ _) 1,fun h=>absurd (by simp) h,fun h=>absurd (by simp) h,fun h=>absurd (by simp) h,fun h=>absurd (by simp) h,fun h=>absurd (by simp) h,fun h=>absurd (by simp) h,fun h=>absurd (by simp) h⟩⟩
 ·intro todo k a wx hk hD hJ hS
  obtain⟨x4,x13,x14,x16,x18,x19,gH,gB,gL,gS,c,rfl,hJ⟩:=hJ
  have HJ:=aA hJ
  have hcase:=hJ.t k hk
  have HK:=aA hk
  have HD:=aA hD
  clear hJ hS hk hD q0 q1 q2 q3
  rcases hcase with rfl|rfl|rfl|rfl|rfl|rfl
  ·simp only[CalmN.wpSt,List.getElem?_toArray,List.getElem?_cons_zero,List.getElem?_cons_succ]
   intro KK hKK
   rw[if_pos (by rfl)]
   refine zgN (.tmp 12) (.tmp 12) _ rfl Try.underlying27 G.ns.length rfl rfl (by omega) ?_
   intro w' hu hb
   have hj:=HJ.out.put3 HK.out hb hu
   exact hKK _ _ ⟨⟨w',hj.b⟩,rfl⟩ (fun x=>∃y:Calm.On w2.heap.size w2,x=y.1) (fun _ h=>h) ⟨⟨w',hj.b⟩,rfl⟩ ⟨x4,_,x14,x16,x18,x19,_,gB,gL,gS,c,rfl,hj⟩
  ·simp only[CalmN.wpSt,List.getElem?_toArray,List.getElem?_cons_zero,List.getElem?_cons_succ]
   intro KK hKK
   rw[if_pos (by rfl)]
   have hj:=HJ.out.put4 HK.out
   go_wp2_with fail
   exact hKK _ _ ⟨⟨_,hj.b⟩,rfl⟩ (fun x=>∃y:Calm.On w2.heap.size w2,x=y.1) (fun _ h=>h) ⟨⟨_,hj.b⟩,rfl⟩ ⟨x4,x13,_,x16,x18,x19,gH,_,gL,gS,c,rfl,hj⟩
  ·have m4:=HD.out (6,4) (by simp) rfl
   obtain⟨rfl,_,hu4⟩:=HJ.out.h4 m4
   simp only[CalmN.wpSt,List.getElem?_toArray,List.getElem?_cons_zero,List.getElem?_cons_succ]
   intro KK hKK
   rw[if_pos (by rfl)]
   go_wp2_with fail
   refine(HREP.out wx gB hu4).mono ?_;rintro _ w' ⟨g,rfl,hg,hu,hb⟩
   have hj:=HJ.out.put6 HK.out m4 hb hg hu
   go_wp2_with fail
   exact hKK _ _ ⟨⟨w',hj.b⟩,rfl⟩ (fun x=>∃y:Calm.On w2.heap.size w2,x=y.1) (fun _ h=>h) ⟨⟨w',hj.b⟩,rfl⟩ ⟨x4,x13,_,_,x18,x19,gH,gB,_,gS,c,rfl,hj⟩
  ·simp only[CalmN.wpSt,List.getElem?_toArray,List.getElem?_cons_zero,List.getElem?_cons_succ]
   intro KK hKK
   rw[if_pos (by rfl)]
   refine zgM (f:=szc) (m:=2) (.tmp 17) (.tmp 17) _ rfl Try.underlying46 _ 16 zgS HI2.out (by decide) (by decide) (0,0) rfl G.ns.length rfl rfl (by omega) ?_
   intro w' hu hb
   have hj:=HJ.out.put8 HK.out hb hu
   exact hKK _ _ ⟨⟨w',hj.b⟩,rfl⟩ (fun x=>∃y:Calm.On w2.heap.size w2,x=y.1) (fun _ h=>h) ⟨⟨w',hj.b⟩,rfl⟩ ⟨x4,x13,x14,x16,_,x19,gH,gB,gL,_,c,rfl,hj⟩
  ·have m3:=HD.out (9,3) (by simp) rfl
   have m6:=HD.out (9,6) (by simp) rfl
   have m8:=HD.out (9,8) (by simp) rfl
   obtain⟨rfl,_⟩:=HJ.out.h3 m3
   obtain⟨_,rfl,_⟩:=HJ.out.h6 m6
   obtain⟨rfl,_⟩:=HJ.out.h8 m8
   have hj:=HJ.out.put9 m3 m6 m8
   simp only[CalmN.wpSt,List.getElem?_toArray,List.getElem?_cons_zero,List.getElem?_cons_succ]
   intro KK hKK
   rw[if_pos (by rfl)]
   go_wp2_with fail
   exact hKK _ _ ⟨⟨_,hj.b⟩,rfl⟩ (fun x=>∃y:Calm.On w2.heap.size w2,x=y.1) (fun _ h=>h) ⟨⟨_,hj.b⟩,rfl⟩ ⟨x4,_,x14,_,_,_,gH,gB,gL,gS,c,rfl,hj⟩
  ·simp only[CalmN.wpSt,List.getElem?_toArray,List.getElem?_cons_zero,List.getElem?_cons_succ]
   intro KK hKK
   rw[if_pos (by rfl)]
   have hj:=HJ.out.put10
   go_wp2_with fail
   exact hKK _ _ ⟨⟨_,hj.b⟩,rfl⟩ (fun x=>∃y:Calm.On w2.heap.size w2,x=y.1) (fun _ h=>h) ⟨⟨_,hj.b⟩,rfl⟩ ⟨_,x13,x14,x16,x18,x19,gH,gB,gL,gS,_,rfl,hj⟩
 ·intro a wx hJ hS
  obtain⟨x4,x13,x14,x16,x18,x19,gH,gB,gL,gS,c,rfl,hJ⟩:=hJ
  obtain⟨rfl,hgH,huH⟩:=hJ.h3 (by simp)
  obtain⟨_,rfl,hgL,huL⟩:=hJ.h6 (by simp)
  obtain⟨rfl,hgS,huS⟩:=hJ.h8 (by simp)
  obtain⟨_,_,_,rfl⟩:=hJ.h9 (by simp)
  obtain⟨rfl,hcc,huc⟩:=hJ.h10 (by simp)
  have hHL:=hJ.d (by simp) (by simp)
  have hbx:=hJ.b
  clear hS q0 q1 q2 q3 hJ
  have l7:=(Array.getElem?_eq_some_iff.1 huc).1
  have f0:=frozen_of_row wx _ 0 _ _ huc
  have f1:=frozen_of_row wx _ 1 _ _ huc
  have f2:=frozen_of_row wx _ 2 _ _ huc
  have f3:=frozen_of_row wx _ 3 _ _ huc
  have k0:=cell_of_row wx _ 0 _ _ _ huc
  have k1:=cell_of_row wx _ 1 _ _ _ huc
  have k2:=cell_of_row wx _ 2 _ _ _ huc
  have k3:=cell_of_row wx _ 3 _ _ _ huc
  simp only[CalmN.wpT,CalmN.wpSt,CalmN.pickOps,List.getElem?_toArray,List.getElem?_cons_zero,List.getElem?_cons_succ]
  repeat (go_big_quiet_step (fail))
  refine wpQuiet_nil ?_
  intro KK hKK
  rw[if_pos (by rfl)]
  go_wp2_with fail
  obtain⟨wy,hwy⟩:∃y,y=(((wx.setCell ⟨c,0,none⟩ (.slice AR G.rs.length cR)).setCell ⟨c,1,none⟩ (.slice (some ⟨gH,0,none⟩) G.ns.length G.ns.length)).setCell ⟨c,2,none⟩ (.slice (some ⟨gL,0,none⟩) G.ns.length G.ns.length)).setCell ⟨c,3,none⟩ (.slice (some ⟨gS,0,none⟩) G.ns.length G.ns.length):=⟨_,rfl⟩
  have hby:Below w2.heap.size w2 wy:=by rw[hwy];exact(((hbx.setCell (p:=⟨c,0,none⟩) hcc _).setCell (p:=⟨c,1,none⟩) hcc _).setCell (p:=⟨c,2,none⟩) hcc _).setCell (p:=⟨c,3,none⟩) hcc _
  have hne1:gH≠c:=fun e=>by subst e;unfold UBI at huH;rw[huc]at huH;injection huH with h;injection h with _ h;cases h
  have hne2:gL≠c:=fun e=>by subst e;unfold UBI at huL;rw[huc]at huL;injection huL with h;injection h with _ h;cases h
  have hne3:gS≠c:=fun e=>by subst e;unfold UBQ at huS;rw[huc]at huS;injection huS with h;injection h with _ h;cases h
  have hHS:gH≠gS:=fun e=>by subst e;unfold UBI at huH;unfold UBQ at huS;rw[huH]at huS;injection huS with h;injection h with _ h;cases h
  have hLS:gL≠gS:=fun e=>by subst e;unfold UBI at huL;unfold UBQ at huS;rw[huL]at huS;injection huS with h;injection h with _ h;cases h
  have hy1:UBI wy gH (List.replicate G.ns.length 0):=by rw[hwy];exact UBI.far (UBI.far (UBI.far (UBI.far huH hne1 _) hne1 _) hne1 _) hne1 _
  have hy2:UBI wy gL (List.replicate G.ns.length (-1)):=by rw[hwy];exact UBI.far (UBI.far (UBI.far (UBI.far huL hne2 _) hne2 _) hne2 _) hne2 _
  have hy3:UBQ 51 szc wy gS (List.replicate G.ns.length (0,0)):=by rw[hwy];exact UBQ.far (UBQ.far (UBQ.far (UBQ.far huS hne3 _) hne3 _) hne3 _) hne3 _
  have hyk:wy.heap[c]?=some (.cells #[.slice AR G.rs.length cR,.slice (some ⟨gH,0,none⟩) G.ns.length G.ns.length,.slice (some ⟨gL,0,none⟩) G.ns.length G.ns.length,.slice (some ⟨gS,0,none⟩) G.ns.length G.ns.length] 48 (0,0)):=by rw[hwy];exact heap_setCell_same _ c 3 _ _ _ (heap_setCell_same _ c 2 _ _ _ (heap_setCell_same _ c 1 _ _ _ (heap_setCell_same wx c 0 _ _ _ huc)))
  rw[←hwy]
  refine hKK _ _ ⟨⟨wy,hby⟩,rfl⟩ (fun x=>∃y:Calm.On w2.heap.size w2,x=y.1) (fun _ h=>h) ⟨⟨wy,hby⟩,rfl⟩ ?_
  have HKS:Hid (KS w2 wy G.rs.length AR cR gH gL gS c (List.replicate G.ns.length 0) (List.replicate G.ns.length (-1)) (List.replicate G.ns.length (0,0)) G.ns.length):=aA ⟨hby,hyk,hy1,hy2,hy3⟩
  have HNE:=aA (And.intro hHL (And.intro hHS (And.intro hLS (And.intro hne1 (And.intro hne2 hne3)))))
  have HGE:=aA (And.intro hgH (And.intro hgL (And.intro hgS hcc)))
  clear hKK k0 k1 k2 k3 f0 f1 f2 f3 l7 hwy huH huL huS huc hbx hne1 hne2 hne3 hHS hLS hHL hgH hgL hgS hcc hy1 hy2 hy3 hyk hby
  refine wpQuiet_nil ?_
  have u0:=(HKS.out.b.cell (p:=⟨w.heap.size,0,none⟩) hd1).trans (HS0.out.c 0 _ rfl)
  have u1:=(HKS.out.b.cell (p:=⟨w.heap.size,1,none⟩) hd1).trans (HS0.out.c 1 _ rfl)
  have u2:=(HKS.out.b.cell (p:=⟨w.heap.size,2,none⟩) hd1).trans (HS0.out.c 2 _ rfl)
  have u3:=(HKS.out.b.cell (p:=⟨w.heap.size,3,none⟩) hd1).trans (HS0.out.c 3 _ rfl)
  have lw:w.heap.size<wy.heap.size:=Nat.lt_of_lt_of_le hd1 HKS.out.b.size
  have HPY:=aA (HPL.out wy (HW2.out.trans (HKS.out.b.mono (Nat.le_of_lt hd1))))
  clear HPL HREP
  go_wp2_with fail
  refine HPY.out.mono ?_;rintro _ w4 ⟨v4,l,d,kn,rfl,ho4,hps,hla,hb4⟩
  have HM4:=aA ho4
  have HPS:=aA hps
  have HLA:=aA hla
  have hk4:=HKS.out
  have HK4:Hid (KS w2 w4 G.rs.length AR cR gH gL gS c (List.replicate G.ns.length 0) (List.replicate G.ns.length (-1)) (List.replicate G.ns.length (0,0)) G.ns.length):=aA ⟨hk4.b.trans (hb4.mono hk4.b.size),(hb4.block _ (Array.getElem?_eq_some_iff.1 hk4.kb).1).trans hk4.kb,hk4.uh.below hb4 hk4.uh.lt,hk4.ul.below hb4 hk4.ul.lt,hk4.us.below hb4 hk4.us.lt⟩
  obtain⟨A4,c4,rfl,h41,h42,_⟩:=aN.form ho4 zas
  have HLL:Hid (l.length≤1000000):=aA (by have:=HPS.out.len;have:=HPS.out.dl;have:=HN.out.2;omega)
  have hll:(l.length:Int)≤9223372036854775807:=by have:=HLL.out;omega
  clear hk4 ho4 hps hla hb4 h41 h42 u0 u1 u2 u3 lw HKS HPY
  go_wp2
  go_loopw [23] (fun vi wr=>∃(k:Nat) (H L:List Int) (S:List (Nat×Nat)),k≤l.length∧vi=.int .i64 k∧Hid (Gm.Kn G l k H L S)∧Hid (KS w2 wr G.rs.length AR cR gH gL gS c H L S G.ns.length)∧Hid (zc2 wr wy.heap.size (.slice A4 l.length c4) l)) (fun vi _=>l.length-(intOf vi).toNat)
  case atStart=>exact⟨0,_,_,_,Nat.zero_le _,rfl,aA (Gm.Kn.zero G l),HK4,HM4⟩
  case round =>
   clear HK4 HM4
   obtain⟨k,H,L,S,hk,rfl,HX,HK,HM⟩:=hrel
   by_cases hlt:k<l.length
   ·obtain⟨gm,cm,e4,_,_,_⟩:=aN.addr HM.out (by omega)
    injection e4 with e41 _ e43
    subst e41 e43
    have m0:=aN.cellAt HM.out zas k 0 hlt _ rfl
    rw[Nat.add_zero]at m0
    have m1:=aN.cellAt HM.out zas k 1 hlt _ rfl
    have m2:=aN.cellAt HM.out zas k 2 hlt _ rfl
    have lm:=aN.lt HM.out
    obtain⟨a1,a2,z3,z4,a5,a6⟩:=HPS.out.a _ (List.getElem_mem hlt)
    obtain⟨hqi,z1,z2,esz,hsn⟩:=Gm.Kn.ready HOK.out HPS.out hlt HX.out
    have HNT:=aA (HX.out.next hlt a1 (h:=(l[k].h:Int)) (i:=(l[k].i:Int)) (by rw[a2]) a5.symm esz)
    have hrin:=(HFT.out.r _ (List.getElem_mem hqi)).2.2
    have hrl:=(Gm.rule_in (HOK.out.rr _ (List.getElem_mem hqi))).1
    have HRT0:=aA (fun(y:World) (hL:UBI y gL (L.set l[k].n (l[k].i:Int))) (hb:Below w.heap.size w y)=>zbb G.rs (L.set l[k].n (l[k].i:Int)) AR G.rs.length cR gH gL gS G.ns.length B l[k].n l[k].i y (by rw[List.length_set,HX.out.ll];exact a1) hqi (by rw[Gm.gD_set _ _ _ _ _ (by rw[HX.out.ll];exact a1),if_pos rfl]) (by rw[List.length_set,HX.out.ll]) rfl hL (HRl.out.blw hb HB.out) (Nat.le_trans HB.out hb.size))
    have HSZ:=aA (fun(y:World) (A:Option Addr) (cc:Nat) (hr:RdI y B A (G.rs[l[k].i]'hqi).r) (hS:UBQ 51 szc y gS S) (hB:B≤y.heap.size)=>zbK (G.rs[l[k].i]'hqi).r S AR A G.rs.length cR gH gL gS G.ns.length cc B y hr hB hS hrin (fun z hz hn=>by rw[HX.out.ls];exact hsn z hz hn) HX.out.le HX.out.ls.symm (by omega))
    have hfl:=Gm.szF_le S (G.rs[l[k].i]'hqi).r
    obtain⟨r,hr⟩:∃r,r=(G.rs[l[k].i]'hqi).r:=⟨_,rfl⟩
    rw[←hr]at HNT HSZ hfl
    have HRT:=aA (fun(y:World) (hL:UBI y gL (L.set l[k].n (l[k].i:Int))) (hb:Below w.heap.size w y)=>(HRT0.out y hL hb).mono (fun e w' h=>(show(∃A c,e=.returned (.slice A r.length c)∧r.length≤c∧RdI y B A r)∧Below y.heap.size y w' from by rw[hr];exact h)))
    clear HRT0 hr z1 z2 z3 z4 hrin hrl hqi hsn esz a2 a5 a6
    have HLH:=aA HX.out.lh
    have HLL2:=aA HX.out.ll
    have HLS:=aA HX.out.ls
    generalize l[k]=q at *
    obtain⟨qn,qh,qi⟩:=q
    simp only at m0 m1 m2 a1 HNT HRT HSZ
    generalize Gm.szF S r=sf at *
    obtain⟨fa,fb⟩:=sf
    simp only at hfl
    have HAN:=aA (fun y=>zdH 1 0 fa fb y (by decide) (by decide) (by omega) (by omega))
    have HNT:Hid (Gm.Kn G l (k+1) (H.set qn (qh:Int)) (L.set qn (qi:Int)) (S.set qn (min (1+fa) 301,min (0+fb) 61))):=HNT
    generalize min (1+fa) 301=ra at *
    generalize min (0+fb) 61=rb at *
    have hqn3:(qn:Int)<(G.ns.length:Int):=by omega
    obtain⟨wb,hwb⟩:∃y,y=wr.alloc (.cells #[.int .i64 (qn:Int),.int .i64 (qh:Int),.int .i64 (qi:Int)] 68):=⟨_,rfl⟩
    have hbb:Below wr.heap.size wr wb:=by rw[hwb];exact(Below.refl _ _).alloc (Nat.le_refl _) _
    have hbp:wb.heap[wr.heap.size]?=some (.cells #[.int .i64 (qn:Int),.int .i64 (qh:Int),.int .i64 (qi:Int)] 68 (0,0)):=by rw[hwb];exact heap_alloc_new wr _
    have HKB:=aA (HK.out.on hbb)
    have HMB:=aA (aN.below HM.out hbb (Nat.le_refl _))
    have HBP:=aA hbp
    have hlc:=(Array.getElem?_eq_some_iff.1 HK.out.kb).1
    have hlH:=HK.out.uh.lt
    have hlL:=HK.out.ul.lt
    have hlS:=HK.out.us.lt
    have HLT:=aA (And.intro hlc (And.intro hlH (And.intro hlL hlS)))
    have hszb:wr.heap.size<wb.heap.size:=(Array.getElem?_eq_some_iff.1 hbp).1
    have t1:=fun y:OnP [c,wr.heap.size] wb=>y.row (j:=1) (by simp) HKB.out.kb rfl
    have t2:=fun y:OnP [c,wr.heap.size] wb=>y.row (j:=2) (by simp) HKB.out.kb rfl
    have p0:=fun y:OnP [c,wr.heap.size] wb=>y.row (j:=0) (by simp) HBP.out rfl
    have p1:=fun y:OnP [c,wr.heap.size] wb=>y.row (j:=1) (by simp) HBP.out rfl
    have p2:=fun y:OnP [c,wr.heap.size] wb=>y.row (j:=2) (by simp) HBP.out rfl
    have HOP:Hid (∀x,x.heap[c]?=wb.heap[c]?→x.heap[wr.heap.size]?=wb.heap[wr.heap.size]?→∃y:OnP [c,wr.heap.size] wb,x=y.1):=aA (fun x h1 h2=>⟨⟨x,fun g hg=>by simp at hg;rcases hg with rfl|rfl;exact h1;exact h2⟩,rfl⟩)
    clear hbb hbp HK HM hlc hlH hlL hlS
    go_upto_region 6 with fail
    rw[←hwb]
    clear hwb m0 m1 m2 lm
    refine CalmN.region_tree (fun x=>∃y:OnP [c,wr.heap.size] wb,x=y.1) (.one [0,1,2,3,4,5,6,7,8,9,10,11,12] 13 (.one [14] 15 (.fin []))) (by kernel_rfl) (by kernel_rfl) (fun _ _ d _ _ h=>by cases d <;> exact h) (HOP.out _ rfl rfl) ?_
    simp only[CalmN.wpT,CalmN.wpSt,CalmN.pickOps,List.getElem?_toArray,List.getElem?_cons_zero,List.getElem?_cons_succ]
    repeat (go_big_quiet_step (fail))
    refine wpQuiet_nil ?_
    have HKD:=aA (HKB.out.on (show Below wb.heap.size wb wb.drew from aB (Below.refl _ _) 1))
    have HMD:Hid (zc2 wb.drew wy.heap.size (.slice (some ⟨gm,0,none⟩) l.length c4) l):=HMB
    have hzd:wb.drew.heap.size=wb.heap.size:=rfl
    have HBD:Hid (wb.drew.heap[wr.heap.size]?=wb.heap[wr.heap.size]?∧wb.drew.heap[c]?=wb.heap[c]?∧wb.heap.size≤wb.drew.heap.size):=aA ⟨rfl,rfl,Nat.le_refl _⟩
    clear hzd
    obtain⟨wd,hwd⟩:∃y,y=wb.drew:=⟨_,rfl⟩
    rw[←hwd]at HKD HMD HBD ⊢
    clear hwd
    intro KK hKK
    rw[if_pos (by rfl)]
    have kH:=HKD.out.uh.cell qn (by rw[HLH.out];exact a1)
    have fH:=HKD.out.uh.frozen qn
    have lH:=HKD.out.uh.lt
    go_wp2_with fail
    have hS1:(wd.setCell ⟨gH,qn,none⟩ (.int .i64 (qh:Int))).heap[c]?=wb.heap[c]?:=(Below.heap_setCell _ _ _ c (fun e=>HNE.out.2.2.2.1 e.symm)).trans HBD.out.2.1
    have hS2:(wd.setCell ⟨gH,qn,none⟩ (.int .i64 (qh:Int))).heap[wr.heap.size]?=wb.heap[wr.heap.size]?:=(Below.heap_setCell _ _ _ _ (by simp only;have:=HLT.out;omega)).trans HBD.out.1
    refine hKK _ _ (HOP.out _ hS1 hS2) (fun x=>∃y:OnP [c,wr.heap.size] wb,x=y.1) (fun _ h=>h) (HOP.out _ hS1 hS2) ?_
    clear hKK kH fH lH
    repeat (go_big_quiet_step (fail))
    refine wpQuiet_nil ?_
    intro KK hKK
    rw[if_pos (by rfl)]
    have hUL:=UBI.far (p:=⟨gH,qn,none⟩) HKD.out.ul (fun e=>HNE.out.1 e.symm) (.int .i64 (qh:Int))
    have kL:=hUL.cell qn (by rw[HLL2.out];exact a1)
    have fL:=hUL.frozen qn
    have lL:=hUL.lt
    have HKE:=aA (HKD.out.set (And.intro HGE.out.1 HGE.out.2.1) HNE.out qn (qh:Int) (qi:Int))
    have hs1:wd.grownBy (wd.setCell ⟨gH,qn,none⟩ (.int .i64 (qh:Int))) (some gH):=aD (World.grownBy.refl wd (some gH)) qn _
    have hm1:=World.ownsRow.kept HMD.out hs1 (zaQ HMD.out HKD.out.uh (by decide))
    have hs2:(wd.setCell ⟨gH,qn,none⟩ (.int .i64 (qh:Int))).grownBy ((wd.setCell ⟨gH,qn,none⟩ (.int .i64 (qh:Int))).setCell ⟨gL,qn,none⟩ (.int .i64 (qi:Int))) (some gL):=aD (World.grownBy.refl _ (some gL)) qn _
    have HME:=aA (World.ownsRow.kept hm1 hs2 (zaQ hm1 hUL (by decide)))
    have hT1:((wd.setCell ⟨gH,qn,none⟩ (.int .i64 (qh:Int))).setCell ⟨gL,qn,none⟩ (.int .i64 (qi:Int))).heap[c]?=wb.heap[c]?:=(Below.heap_setCell _ _ _ c (fun e=>HNE.out.2.2.2.2.1 e.symm)).trans hS1
    have hT2:((wd.setCell ⟨gH,qn,none⟩ (.int .i64 (qh:Int))).setCell ⟨gL,qn,none⟩ (.int .i64 (qi:Int))).heap[wr.heap.size]?=wb.heap[wr.heap.size]?:=(Below.heap_setCell _ _ _ _ (by simp only;have:=HLT.out;omega)).trans hS2
    have HT:=aA (And.intro hT1 (And.intro hT2 (Nat.le_trans HBD.out.2.2 (Nat.le_trans hs1.size hs2.size))))
    clear hUL hs1 hm1 hs2 hS1 hS2 HKD HMD HBD
    go_wp2_with fail
    refine hKK _ _ (HOP.out _ hT1 hT2) (fun x=>∃y:OnP [c,wr.heap.size] wb,x=y.1) (fun _ h=>h) (HOP.out _ hT1 hT2) ?_
    clear hKK kL fL lL hT1 hT2
    refine wpQuiet_nil ?_
    obtain⟨we,hwe⟩:∃y,y=(wd.setCell ⟨gH,qn,none⟩ (.int .i64 (qh:Int))).setCell ⟨gL,qn,none⟩ (.int .i64 (qi:Int)):=⟨_,rfl⟩
    rw[←hwe]at HKE HME HT ⊢
    clear hwe t1 t2 p0 p1 p2
    have hpe:=HT.out.2.1.trans HBP.out
    have HLE:Hid (c<we.heap.size∧wr.heap.size<we.heap.size∧w2.heap.size≤we.heap.size):=aA ⟨(Array.getElem?_eq_some_iff.1 HKE.out.kb).1,(Array.getElem?_eq_some_iff.1 hpe).1,HKE.out.b.size⟩
    have x0:=fun y:OnP [c,wr.heap.size] we=>y.row (j:=0) (by simp) HKE.out.kb rfl
    have x1:=fun y:OnP [c,wr.heap.size] we=>y.row (j:=1) (by simp) HKE.out.kb rfl
    have x2:=fun y:OnP [c,wr.heap.size] we=>y.row (j:=2) (by simp) HKE.out.kb rfl
    have x3:=fun y:OnP [c,wr.heap.size] we=>y.row (j:=3) (by simp) HKE.out.kb rfl
    have p0:=fun y:OnP [c,wr.heap.size] we=>y.row (j:=0) (by simp) hpe rfl
    have HOQ:Hid (∀x,x.heap[c]?=we.heap[c]?→x.heap[wr.heap.size]?=we.heap[wr.heap.size]?→∃y:OnP [c,wr.heap.size] we,x=y.1):=aA (fun x h1 h2=>⟨⟨x,fun g hg=>by simp at hg;rcases hg with rfl|rfl;exact h1;exact h2⟩,rfl⟩)
    have HOB:Hid (∀x,Below we.heap.size we x→∃y:OnP [c,wr.heap.size] we,x=y.1):=aA (fun x h=>HOQ.out x (h.block _ HLE.out.1) (h.block _ HLE.out.2.1))
    have HBW:Hid (∀x,Below we.heap.size we x→Below w.heap.size w x):=aA (fun x h=>HW2.out.trans ((HKE.out.b.trans (h.mono HLE.out.2.2)).mono (by have:=HZ2.out;omega)))
    have HD:Hid (Below we.heap.size we we.drew):=aA (aB (Below.refl _ _) 1)
    have HBDD:∀w:World,(Instr.build 51 #[(0,Value.int .i64 1)]).run Try.prog w=.ok (.agg #[.int .i64 1,.int .i64 0]) w:=fun w=>run_build w 51 _ _ (by kernel_rfl)
    clear hpe HOP HKB HMB HBP hszb
    go_upto_region 7 with fail
    refine CalmN.region_tree (fun x=>∃y:OnP [c,wr.heap.size] we,x=y.1) (.one [0,1,2,3,4,5,6,7,8] 9 (.one [] 10 (.one [] 11 (.one [12] 13 (.fin []))))) (by kernel_rfl) (by kernel_rfl) (fun _ _ d _ _ h=>by cases d <;> exact h) (HOB.out _ HD.out) ?_
    simp only[CalmN.wpT,CalmN.wpSt,CalmN.pickOps,List.getElem?_toArray,List.getElem?_cons_zero,List.getElem?_cons_succ]
    repeat (go_big_quiet_step (fail))
    refine wpQuiet_nil ?_
    obtain⟨wg,hwg⟩:∃y,y=we.drew:=⟨_,rfl⟩
    rw[←hwg]at HD ⊢
    clear hwg
    intro KK hKK
    rw[if_pos (by rfl)]
    go_wp2_with fail
    refine(HRT.out wg (HKE.out.on HD.out).ul (HBW.out _ HD.out)).mono ?_;rintro _ wh ⟨⟨A8,c8,rfl,_,hr8⟩,hb⟩
    have HH:=aA (HD.out.trans (hb.mono HD.out.size))
    have HR8:=aA (hr8.below hb (Nat.le_trans HB.out (HBW.out _ HD.out).size))
    clear hb hr8
    go_wp2_with fail
    refine hKK _ _ (HOB.out _ HH.out) (fun x=>∃y:OnP [c,wr.heap.size] we,x=y.1) (fun _ h=>h) (HOB.out _ HH.out) ?_
    clear hKK
    refine wpQuiet_nil ?_
    intro KK hKK
    rw[if_pos (by rfl)]
    go_wp2_with fail
    refine(HSZ.out wh A8 c8 HR8.out (HKE.out.on HH.out).us (Nat.le_trans HB.out (HBW.out _ HH.out).size)).mono ?_;rintro _ wi ⟨rfl,hb⟩
    have HI:=aA (HH.out.trans (hb.mono HH.out.size))
    clear hb
    go_wp2_with fail
    refine hKK _ _ (HOB.out _ HI.out) (fun x=>∃y:OnP [c,wr.heap.size] we,x=y.1) (fun _ h=>h) (HOB.out _ HI.out) ?_
    clear hKK
    refine wpQuiet_nil ?_
    intro KK hKK
    rw[if_pos (by rfl)]
    go_wp2_with fail
    refine(HAN.out wi).mono ?_;rintro _ wj ⟨rfl,hb⟩
    have HJ:=aA (HI.out.trans (hb.mono HI.out.size))
    clear hb
    go_wp2_with fail
    refine hKK _ _ (HOB.out _ HJ.out) (fun x=>∃y:OnP [c,wr.heap.size] we,x=y.1) (fun _ h=>h) (HOB.out _ HJ.out) ?_
    clear hKK
    repeat (go_big_quiet_step (fail))
    refine wpQuiet_nil ?_
    intro KK hKK
    rw[if_pos (by rfl)]
    have HKJ:=aA (HKE.out.on HJ.out)
    have HMJ:=aA (aN.below HME.out HJ.out (Nat.le_refl _))
    have s0:=HKJ.out.us.cell za7 qn 0 (by rw[HLS.out];exact a1) _ rfl
    rw[Nat.add_zero]at s0
    have s1:=HKJ.out.us.cell za7 qn 1 (by rw[HLS.out];exact a1) _ rfl
    have f0:=HKJ.out.us.frozen (qn*2)
    have f1:=HKJ.out.us.frozen (qn*2+1)
    have ls:=HKJ.out.us.lt
    have HKN2:=aA (HKJ.out.setS HGE.out.2.2.1 HNE.out qn ra rb)
    have hs1:wj.grownBy ((wj.setCell ⟨gS,qn*2,none⟩ (.int .i64 (ra:Int))).setCell ⟨gS,qn*2+1,none⟩ (.int .i64 (rb:Int))) (some gS):=aD (aD (World.grownBy.refl wj (some gS)) (qn*2) _) (qn*2+1) _
    have HMN:=aA (World.ownsRow.kept HMJ.out hs1 (zaQ HMJ.out HKJ.out.us (by decide)))
    have hT1:=hs1.block c (Nat.lt_of_lt_of_le HLE.out.1 HJ.out.size) (fun e=>HNE.out.2.2.2.2.2 (by injection e with e;exact e.symm))
    have hT2:=hs1.block wr.heap.size (Nat.lt_of_lt_of_le HLE.out.2.1 HJ.out.size) (fun e=>by injection e with e;have:=HLT.out;omega)
    have hU:=HOQ.out _ (hT1.trans (HJ.out.block c HLE.out.1)) (hT2.trans (HJ.out.block wr.heap.size HLE.out.2.1))
    clear hs1 hT1 hT2
    go_wp2_with fail
    refine hKK _ _ hU (fun x=>∃y:OnP [c,wr.heap.size] we,x=y.1) (fun _ h=>h) hU ?_
    clear hKK s0 s1 f0 f1 ls hU
    refine wpQuiet_nil ?_
    obtain⟨wk,hwk⟩:∃y,y=(wj.setCell ⟨gS,qn*2,none⟩ (.int .i64 (ra:Int))).setCell ⟨gS,qn*2+1,none⟩ (.int .i64 (rb:Int)):=⟨_,rfl⟩
    rw[←hwk]at HKN2 HMN ⊢
    clear hwk x0 x1 x2 x3 p0
    go_wp2
    go_roundw
    case rel=>exact⟨k+1,_,_,_,hlt,by go_num,HNT,HKN2,HMN⟩
    case measure=>simp[intOf];omega
   ·obtain rfl:k=l.length:=by omega
    have hall:=HX.out.all HOK.out HPS.out HLA.out
    obtain⟨rfl,rfl,rfl⟩:=hall
    have t0:=cell_of_row wr _ 0 _ _ _ HK.out.kb
    have t1:=cell_of_row wr _ 1 _ _ _ HK.out.kb
    have t2:=cell_of_row wr _ 2 _ _ _ HK.out.kb
    have t3:=cell_of_row wr _ 3 _ _ _ HK.out.kb
    have lc:=(Array.getElem?_eq_some_iff.1 HK.out.kb).1
    have hrs:=(HK.out.b.block (w.heap.size+1) (by have:=HZ2.out;omega)).trans HRS.out
    have g0:=cell_of_row wr _ 0 _ _ _ hrs
    have g1:=cell_of_row wr _ 1 _ _ _ hrs
    have g2:=cell_of_row wr _ 2 _ _ _ hrs
    have g3:=cell_of_row wr _ 3 _ _ _ hrs
    have f0:=frozen_of_row wr _ 0 _ _ hrs
    have f1:=frozen_of_row wr _ 1 _ _ hrs
    have f2:=frozen_of_row wr _ 2 _ _ hrs
    have f3:=frozen_of_row wr _ 3 _ _ hrs
    have lr:=(Array.getElem?_eq_some_iff.1 hrs).1
    obtain⟨wf,hwf⟩:∃y,y=(((wr.setCell ⟨w.heap.size+1,0,none⟩ (.slice AR G.rs.length cR)).setCell ⟨w.heap.size+1,1,none⟩ (.slice (some ⟨gH,0,none⟩) G.ns.length G.ns.length)).setCell ⟨w.heap.size+1,2,none⟩ (.slice (some ⟨gL,0,none⟩) G.ns.length G.ns.length)).setCell ⟨w.heap.size+1,3,none⟩ (.slice (some ⟨gS,0,none⟩) G.ns.length G.ns.length):=⟨_,rfl⟩
    have hrf:wf.heap[w.heap.size+1]?=some (.cells #[.slice AR G.rs.length cR,.slice (some ⟨gH,0,none⟩) G.ns.length G.ns.length,.slice (some ⟨gL,0,none⟩) G.ns.length G.ns.length,.slice (some ⟨gS,0,none⟩) G.ns.length G.ns.length] 48 (0,0)):=by rw[hwf];exact heap_setCell_same _ _ 3 _ _ _ (heap_setCell_same _ _ 2 _ _ _ (heap_setCell_same _ _ 1 _ _ _ (heap_setCell_same wr _ 0 _ _ _ hrs)))
    have e0:=cell_of_row wf _ 0 _ _ _ hrf
    have e1:=cell_of_row wf _ 1 _ _ _ hrf
    have e2:=cell_of_row wf _ 2 _ _ _ hrf
    have e3:=cell_of_row wf _ 3 _ _ _ hrf
    have hne:∀g,w2.heap.size≤g→g≠w.heap.size+1:=fun g h=>by have:=HZ2.out;omega
    have HE:Hid (zhj G B w (.returned (.agg #[.slice AR G.rs.length cR,.slice (some ⟨gH,0,none⟩) G.ns.length G.ns.length,.slice (some ⟨gL,0,none⟩) G.ns.length G.ns.length,.slice (some ⟨gS,0,none⟩) G.ns.length G.ns.length])) wf):=aA ⟨AR,cR,gH,gL,gS,rfl,by have:=HGE.out.1;have:=HZ2.out;omega,by have:=HGE.out.2.1;have:=HZ2.out;omega,by have:=HGE.out.2.2.1;have:=HZ2.out;omega,
     by rw[hwf];exact UBI.far (UBI.far (UBI.far (UBI.far HK.out.uh (hne _ HGE.out.1) _) (hne _ HGE.out.1) _) (hne _ HGE.out.1) _) (hne _ HGE.out.1) _,
     by rw[hwf];exact UBI.far (UBI.far (UBI.far (UBI.far HK.out.ul (hne _ HGE.out.2.1) _) (hne _ HGE.out.2.1) _) (hne _ HGE.out.2.1) _) (hne _ HGE.out.2.1) _,
     by rw[hwf];exact UBQ.far (UBQ.far (UBQ.far (UBQ.far HK.out.us (hne _ HGE.out.2.2.1) _) (hne _ HGE.out.2.2.1) _) (hne _ HGE.out.2.2.1) _) (hne _ HGE.out.2.2.1) _,
     by
      have h:=HW2.out.trans (HK.out.b.mono (by have:=HZ2.out;omega))
      have h2:Below w.heap.size w wf:=by rw[hwf];exact(((h.setCell (p:=⟨w.heap.size+1,0,none⟩) (by simp) _).setCell (p:=⟨w.heap.size+1,1,none⟩) (by simp) _).setCell (p:=⟨w.heap.size+1,2,none⟩) (by simp) _).setCell (p:=⟨w.heap.size+1,3,none⟩) (by simp) _
      exact⟨HRl.out.blw h2 HB.out,h2⟩⟩
    clear hrs hrf
    go_upto_region 10 with fail
    go_wp2_with fail
    rw[←hwf]
    refine bodyPost_ret (v:=.agg #[.slice AR G.rs.length cR,.slice (some ⟨gH,0,none⟩) G.ns.length G.ns.length,.slice (some ⟨gL,0,none⟩) G.ns.length G.ns.length,.slice (some ⟨gS,0,none⟩) G.ns.length G.ns.length]) (by simp[results,Try.results16,go_sem,e0,e1,e2,e3]) rfl ?_
    exact HE.out
end Go.Proofs.Ytcgclkndkahgaaa
namespace Go.Proofs.Ytcgclkndkahgaaa
set_option maxRecDepth 100000
set_option maxHeartbeats 40000000
open Go.RowKit
abbrev oiN (l:List Nat):List Int:=l.map Int.ofNat
def zfR (base:Nat) (xs:List Int) (w:World) (e:Ending) (w':World):Prop:=∃v',e=.returned v'∧aK w' base v' xs∧Below base w w'∧KeepX 3 w w'
theorem zed (G:Gm.Gr) (hok:Gm.Ok G) (hf:Gm.Fit G) (AR:Option Addr) (cR gH gL gS B:Nat):∀(f j:Nat),Gm.Gn true G.rs (j:Int)→(Gm.hts G).getD j 0≤f→∀(v:Value) (xs:List Int) (base:Nat) (w:World),aK w base v xs→base≤w.heap.size→B≤base→gL<base→UBI w gL (Gm.best G (Gm.hts G))→zc1 w B AR G.rs→xs.length+(Gm.ltree G [-1-(j:Int)]).length≤1000000 →
  Calls Try.prog 23 #[.agg #[.slice AR G.rs.length cR,.slice (some ⟨gH,0,none⟩) G.ns.length G.ns.length,.slice (some ⟨gL,0,none⟩) G.ns.length G.ns.length,.slice (some ⟨gS,0,none⟩) G.ns.length G.ns.length],v,.int .i64 (j:Int)] w (zfR base (xs++oiN (Gm.ltree G [-1-(j:Int)])) w):=by
 intro f
 induction f with
 | zero =>
  intro j hp hh
  have:=Gm.hts_pos hok hp
  omega
 | succ f ih =>
  intro j hp hh v xs base w hown hbase hB hgL hL hR hlen
  obtain⟨i,hi,hbi,hln,hlr,hjn⟩:=Gm.best_i hok hp
  have hz1:(-1-(j:Int))<0:=by omega
  have hp1:Gm.Gn true G.rs (-1-(-1-(j:Int))):=by rw[show -1-(-1-(j:Int))=(j:Int) by omega];exact hp
  have hE:=Gm.ltree_non hok hz1 hp1
  have hPr:=(Gm.lrt_of hok hz1 hp1).1
  have hTop:=Gm.top_lt hok hz1 hp1 (f:=f) (by rw[show(-1-(-1-(j:Int))).toNat=j by omega];exact hh)
  rw[hln]at hE
  rw[hlr]at hE hPr hTop
  have hrl:=(Gm.rule_in (hok.rr _ (List.getElem_mem hi))).1
  have hin:=(hf.r _ (List.getElem_mem hi)).2.2
  have HRT0:=aA (fun(y:World) (hb:Below base w y)=>zbb G.rs (Gm.best G (Gm.hts G)) AR G.rs.length cR gH gL gS G.ns.length B j i y (by rw[Gm.best_len];exact hjn) hi hbi Gm.best_len.symm rfl (hL.below hb hgL) (hR.blw hb hB) (Nat.le_trans hB (Nat.le_trans hbase hb.size)))
  obtain⟨r,hr⟩:∃r,r=(G.rs[i]'hi).r:=⟨_,rfl⟩
  rw[←hr]at hE hPr hTop hrl hin
  have HRT:=aA (fun(y:World) (hb:Below base w y)=>(HRT0.out y hb).mono (fun e w' h=>(show(∃A c,e=.returned (.slice A r.length c)∧r.length≤c∧RdI y B A r)∧Below y.heap.size y w' from by rw[hr];exact h)))
  have HIH:=aA (fun(m:Nat) (z:Int) (hz:z∈r) (hm:-1-z=(m:Int))=>(show ∀(v:Value) (ys:List Int) (y:World),aK y base v ys→Below base w y→ys.length+(Gm.ltree G [z]).length≤1000000→Calls _ _ _ y (zfR base (ys++oiN (Gm.ltree G [z])) y) from fun v ys y ho hb hl=>by
   have hz0:z = -1-(m:Int):=by omega
   have hp3:=hPr z hz (by omega)
   have ht3:=Gm.topH_le.1 hTop z hz (by omega)
   have:=ih m (by rw[←hm];exact hp3) (by rw[hm,Int.toNat_natCast]at ht3;exact ht3) v ys base y ho (Nat.le_trans hbase hb.size) hB hgL (hL.below hb hgL) (hR.blw hb hB) (by rw[←hz0];exact hl)
   rw[←hz0]at this
   exact this))
  have HTK:=aA (fun k (hk:k<r.length)=>Gm.ltree_take hok hPr hk)
  have HTL:=aA (fun k=>Gm.ltree_len hok hPr k)
  have HTT:=aA (fun(z:Int) (hz:¬z<0)=>Gm.ltree_term hok hz)
  have HNL:=aA (Gm.ltree_nil G hok)
  have HE:=aA hE
  have HLEN:=aA hlen
  have HI:=aA (fun z w=>zaC z w)
  have HX:=aA (fun z (hz:z∈r) w=>zaX z (hin z hz).1 (hin z hz).2 w)
  have hjn2:(j:Int)<(G.ns.length:Int):=by omega
  have hrlen:(r.length:Int)≤9223372036854775807:=by omega
  obtain⟨w1,hw1⟩:∃y,y=w.alloc (.cells #[.slice AR G.rs.length cR,.slice (some ⟨gH,0,none⟩) G.ns.length G.ns.length,.slice (some ⟨gL,0,none⟩) G.ns.length G.ns.length,.slice (some ⟨gS,0,none⟩) G.ns.length G.ns.length] 48):=⟨_,rfl⟩
  have hbx:w1.heap[w.heap.size]?=some (.cells #[.slice AR G.rs.length cR,.slice (some ⟨gH,0,none⟩) G.ns.length G.ns.length,.slice (some ⟨gL,0,none⟩) G.ns.length G.ns.length,.slice (some ⟨gS,0,none⟩) G.ns.length G.ns.length] 48 (0,0)):=by rw[hw1];exact heap_alloc_new w _
  have hb1:Below base w w1:=by rw[hw1];exact(Below.refl _ _).alloc hbase _
  have hk1:KeepX 3 w w1:=by rw[hw1];exact(KeepX.refl _ _).alloc _
  have ho1:aK w1 base v xs:=by rw[hw1];exact hown.alloc _
  have hLc:=((hL.below hb1 hgL).cell j (by rw[Gm.best_len];exact hjn))
  rw[hbi]at hLc
  have hlL:gL<w1.heap.size:=(hL.below hb1 hgL).lt
  have HBX:=aA hbx
  have HB1:=aA hb1
  have HK1:=aA hk1
  have HO1:=aA ho1
  have HBS:=aA hbase
  have HBB:=aA hB
  have q2:=cell_of_row w1 _ 2 _ _ _ hbx
  have lb:=(Array.getElem?_eq_some_iff.1 hbx).1
  clear HRT0 ih hp hh hown hB hgL hL hR hlen hi hbi hln hlr hjn hz1 hp1 hE hPr hTop hrl hin hr hbx hb1 hk1 ho1 hbase
  go_enter Try.func23,Try.ntmps23
  go_upto_region 1 with fail
  rw[←hw1]
  clear hw1
  have HLX:Hid (xs.length≤1000000000000):=aA (by have:=HLEN.out;omega)
  have HSB:Hid (∀o:Obj,base≤(w1.alloc o).heap.size):=aA (fun o=>by have:=HB1.out.size;have:=HBS.out;simp;omega)
  go_upto_region 2 with(at_builtin;refine zbe rfl (.tmp 9) (.tmp 15) _ rfl Try.underlying27 base _ xs rfl (HO1.out.alloc _) _ 1 (i:Int) rfl (World.cell?_alloc_new _ _ _ 0) HLX.out (HSB.out _) ?_;intro v2 w2 ho2 hg2)
  have HO2:=aA ho2
  have HB2:=aA (zay (HB1.out.alloc (Nat.le_trans HBS.out HB1.out.size) _) (HO1.out.alloc _) hg2 (HSB.out _))
  have HK2:=aA (KeepX.grown (HK1.out.alloc _) (HO1.out.alloc _) hg2)
  have HX2:=aA (KeepX.row (KeepX.grown ((KeepX.refl _ w1).alloc _) (HO1.out.alloc _) hg2) HBX.out (by decide))
  clear ho2 hg2 HSB HLX q2 lb hLc hlL HB1 HK1 HO1 HBX
  go_upto_region 2 with fail
  have x0:=cell_of_row w2 _ 0 _ _ _ HX2.out
  have x1:=cell_of_row w2 _ 1 _ _ _ HX2.out
  have x2:=cell_of_row w2 _ 2 _ _ _ HX2.out
  have x3:=cell_of_row w2 _ 3 _ _ _ HX2.out
  have lb:=(Array.getElem?_eq_some_iff.1 HX2.out).1
  go_upto_region 3 with fail
  refine(HRT.out w2 HB2.out).mono ?_;rintro _ w3 ⟨⟨A,c,rfl,hlc,hri⟩,hb3⟩
  have HRW:Hid (RdI w B A r):=aA (hri.keep fun g o hg=>(HB2.out.cell (p:=⟨g,o,none⟩) (Nat.lt_of_lt_of_le hg HBB.out)).symm)
  have HB3:=aA (HB2.out.trans (hb3.mono (Nat.le_trans HBS.out HB2.out.size)))
  have HK3:=aA (HK2.out.trans (KeepX.of_below hb3))
  have HX3:=aA ((hb3.block _ lb).trans HX2.out)
  have HO3:Hid (aK w3 base v2 (xs++oiN (i::Gm.ltree G (r.take 0)))):=aA (by rw[List.take_zero,HNL.out];exact HO2.out.below hb3 (Nat.le_refl _))
  clear hlc hri hb3 HB2 HK2 HX2 HO2 x0 x1 x2 x3 lb HRT
  go_wp2
  go_loopw [1,21] (fun vl vi wr=>∃(k:Nat) (VL:Value),VL=vl∧k≤r.length∧vi=.int .i64 k∧Hid (aK wr base VL (xs++oiN (i::Gm.ltree G (r.take k))))∧Hid (Below base w wr)∧Hid (KeepX 3 w wr)∧Hid (wr.heap[w.heap.size]?=some (.cells #[.slice AR G.rs.length cR,.slice (some ⟨gH,0,none⟩) G.ns.length G.ns.length,.slice (some ⟨gL,0,none⟩) G.ns.length G.ns.length,.slice (some ⟨gS,0,none⟩) G.ns.length G.ns.length] 48 (0,0)))) (fun _ vi _=>r.length-(intOf vi).toNat)
  case atStart=>exact⟨0,_,rfl,Nat.zero_le _,rfl,HO3,HB3,HK3,HX3⟩
  case round =>
   clear HO3 HB3 HK3 HX3
   obtain⟨k,VL,rfl,hk,rfl,HO,HB,HK,HX0⟩:=hrel
   by_cases hlt:k<r.length
   ·obtain⟨g,o,rfl,hgb,hc⟩:=(HRW.out.below HB.out HBB.out) (by omega)
    have k0:=hc k hlt
    rw[L.gd_lt hlt]at k0
    have hmz:=List.getElem_mem hlt
    have HIz:=aA (fun w=>HI.out r[k] w)
    have HXz:=aA (fun w=>HX.out r[k] hmz w)
    have HTz:=aA (HTK.out k hlt)
    have HT1:=aA (HTT.out r[k])
    have HIHz:=aA (fun(m:Nat) (hm:-1-r[k]=(m:Int))=>HIH.out m r[k] hmz hm)
    have HLz:Hid (xs.length+(1+((Gm.ltree G (r.take k)).length+(Gm.ltree G [r[k]]).length))≤1000000):=aA (by
     have h1:=HTL.out (k+1)
     rw[HTz.out,List.length_append]at h1
     have h2:=HLEN.out
     rw[HE.out,List.length_cons]at h2
     omega)
    have hlb:=(Array.getElem?_eq_some_iff.1 HX0.out).1
    clear hc hmz
    generalize r[k]=z at *
    by_cases h0:z<0
    ·obtain⟨m,hm⟩:∃m:Nat,-1-z=(m:Int):=⟨(-1-z).toNat,by omega⟩
     rw[hm]at HXz
     have HIHm:=aA (HIHz.out m hm)
     rw[decide_eq_true h0]at HIz
     have x0:=fun y:OnP [w.heap.size] wr=>y.row (j:=0) (by simp) HX0.out rfl
     have x1:=fun y:OnP [w.heap.size] wr=>y.row (j:=1) (by simp) HX0.out rfl
     have x2:=fun y:OnP [w.heap.size] wr=>y.row (j:=2) (by simp) HX0.out rfl
     have x3:=fun y:OnP [w.heap.size] wr=>y.row (j:=3) (by simp) HX0.out rfl
     have HOQ:Hid (∀x,x.heap[w.heap.size]?=wr.heap[w.heap.size]?→∃y:OnP [w.heap.size] wr,x=y.1):=aA (fun x h1=>⟨⟨x,fun g hg=>by simp at hg;subst hg;exact h1⟩,rfl⟩)
     have HOD:Hid (aK wr.drew base VL (xs++oiN (i::Gm.ltree G (r.take k)))):=HO
     have HBD:Hid (Below base w wr.drew):=aA (aB HB.out 1)
     have HKD:Hid (KeepX 3 w wr.drew):=aA (HK.out.drewN 1)
     have HXD:Hid (wr.drew.heap[w.heap.size]?=some (.cells #[.slice AR G.rs.length cR,.slice (some ⟨gH,0,none⟩) G.ns.length G.ns.length,.slice (some ⟨gL,0,none⟩) G.ns.length G.ns.length,.slice (some ⟨gS,0,none⟩) G.ns.length G.ns.length] 48 (0,0))):=HX0
     clear h0 hm HIHz HT1
     go_upto_region 6 with fail
     refine(HIz.out _).mono ?_;rintro _ wr ⟨rfl,rfl⟩
     go_upto_region 6 with fail
     refine CalmN.region_tree (fun x=>∃y:OnP [w.heap.size] wr,x=y.1) (.one [0,1,2] 3 (.one [] 4 (.fin [5]))) (by kernel_rfl) (by kernel_rfl) (fun _ _ d _ _ h=>by cases d <;> exact h) (HOQ.out _ rfl) ?_
     simp only[CalmN.wpT,CalmN.wpSt,CalmN.pickOps,List.getElem?_toArray,List.getElem?_cons_zero,List.getElem?_cons_succ]
     repeat (go_big_quiet_step (fail))
     refine wpQuiet_nil ?_
     generalize wr.drew=wd at *
     intro KK hKK
     rw[if_pos (by rfl)]
     go_wp2_with fail
     refine(HXz.out _).mono ?_;rintro _ wd ⟨rfl,rfl⟩
     go_wp2_with fail
     refine hKK _ _ (HOQ.out _ (HXD.out.trans HX0.out.symm)) (fun x=>∃y:OnP [w.heap.size] wr,x=y.1) (fun _ h=>h) (HOQ.out _ (HXD.out.trans HX0.out.symm)) ?_
     clear hKK
     refine wpQuiet_nil ?_
     intro KK hKK
     rw[if_pos (by rfl)]
     go_wp2_with fail
     refine(HIHm.out _ _ _ HOD.out HBD.out (by have:=HLz.out;simp;omega)).mono ?_;rintro _ we ⟨v',rfl,ho,hb,hx⟩
     have HBE:=aA (HBD.out.trans hb)
     have HKE:=aA (HKD.out.trans hx)
     have HXE:=aA (hx.row HXD.out (by decide))
     have HOE:Hid (aK we base v' (xs++oiN (i::Gm.ltree G (r.take (k+1))))):=aA (by
      have e:xs++oiN (i::Gm.ltree G (r.take k))++oiN (Gm.ltree G [z])=xs++oiN (i::Gm.ltree G (r.take (k+1))):=by rw[HTz.out];simp
      rw[←e];exact ho)
     clear ho hb hx
     go_wp2_with fail
     refine hKK _ _ (HOQ.out _ (HXE.out.trans HX0.out.symm)) (fun x=>∃y:OnP [w.heap.size] wr,x=y.1) (fun _ h=>h) (HOQ.out _ (HXE.out.trans HX0.out.symm)) ?_
     clear hKK
     repeat (go_big_quiet_step (fail))
     refine wpQuiet_nil ?_
     clear x0 x1 x2 x3
     go_wp2
     go_roundw
     case rel=>exact⟨k+1,_,rfl,hlt,by go_num,HOE,HBE,HKE,HXE⟩
     case measure=>simp[intOf];omega
    ·rw[decide_eq_false h0]at HIz
     have HO2:Hid (aK wr base VL (xs++oiN (i::Gm.ltree G (r.take (k+1))))):=aA (by rw[HTz.out,HT1.out (by omega),List.append_nil];exact HO.out)
     clear h0 HIHz HT1 HXz
     go_upto_region 7 with fail
     refine(HIz.out _).mono ?_;rintro _ wr ⟨rfl,rfl⟩
     go_wp2
     go_roundw
     case rel=>exact⟨k+1,_,rfl,hlt,by go_num,HO2,HB,HK,HX0⟩
     case measure=>simp[intOf];omega
   ·obtain rfl:k=r.length:=by omega
    rw[List.take_length]at HO
    go_wp2
    go_ret
    exact⟨_,rfl,by rw[HE.out];exact HO.out,HB.out,HK.out⟩
theorem zec (G:Gm.Gr) (hok:Gm.Ok G) (hf:Gm.Fit G) (AR:Option Addr) (cR gH gL gS B:Nat):∀(f:Nat) (r:List Int),Gm.Pr G r→Gm.topH (Gm.hts G) r≤f→(∀z∈r,Gm.In z)→r.length≤1000000→∀(A:Option Addr) (c:Nat) (v:Value) (xs:List Int) (base:Nat) (w:World),aK w base v xs→base≤w.heap.size→B≤base→gL<base→UBI w gL (Gm.best G (Gm.hts G))→zc1 w B AR G.rs→RdI w B A r→xs.length+(Gm.lword G r).length≤1000000 →
  Calls Try.prog 19 #[.agg #[.slice AR G.rs.length cR,.slice (some ⟨gH,0,none⟩) G.ns.length G.ns.length,.slice (some ⟨gL,0,none⟩) G.ns.length G.ns.length,.slice (some ⟨gS,0,none⟩) G.ns.length G.ns.length],v,.slice A r.length c] w (zfR base (xs++Gm.lword G r) w):=by
 intro f
 induction f with
 | zero|succ f ih =>
  intro r hPr hTop hin hrl A c v xs base w hown hbase hB hgL hL hR hri hlen
  have HRW:=aA hri
  have HST:=aA (fun(m:Nat) (z:Int) (hz:z∈r) (hm:-1-z=(m:Int))=>(show ∃x:List Int,Gm.lword G [z]=Gm.lword G x ∧
    (∀y:World,Below base w y→Calls Try.prog 32 #[.agg #[.slice AR G.rs.length cR,.slice (some ⟨gH,0,none⟩) G.ns.length G.ns.length,.slice (some ⟨gL,0,none⟩) G.ns.length G.ns.length,.slice (some ⟨gS,0,none⟩) G.ns.length G.ns.length],.int .i64 (m:Int)] y fun e w'=>(∃A c,e=.returned (.slice A x.length c)∧x.length≤c∧RdI y B A x)∧Below y.heap.size y w') ∧
    ∀(A:Option Addr) (c:Nat) (v:Value) (ys:List Int) (y:World),aK y base v ys→Below base w y→RdI y B A x→ys.length+(Gm.lword G [z]).length≤1000000→Calls Try.prog 19 #[.agg #[.slice AR G.rs.length cR,.slice (some ⟨gH,0,none⟩) G.ns.length G.ns.length,.slice (some ⟨gL,0,none⟩) G.ns.length G.ns.length,.slice (some ⟨gS,0,none⟩) G.ns.length G.ns.length],v,.slice A x.length c] y (zfR base (ys++Gm.lword G [z]) y) from by
   have hz0:z = -1-(m:Int):=by omega
   have hz1:z<0:=by omega
   have hp3:=hPr z hz hz1
   have ht3:=Gm.topH_le.1 hTop z hz hz1
   have hpos:=Gm.hts_pos hok (j:=m) (by rw[←hm];exact hp3)
   have hmm:(-1-z).toNat=m:=by omega
   rw[hmm]at ht3
   first
   | omega
   |obtain⟨i,hi,hbi,_,hlr,hjn⟩:=Gm.best_i hok (j:=m) (by rw[←hm];exact hp3)
    rw[←hz0]at hlr
    have hE:=Gm.lword_non hok hz1 hp3
    have hPr2:=(Gm.lrt_of hok hz1 hp3).1
    have hTop2:=Gm.top_lt hok hz1 hp3 (f:=f) (by rw[hmm];exact ht3)
    rw[hlr]at hE hPr2 hTop2
    have hrl2:=(Gm.rule_in (hok.rr _ (List.getElem_mem hi))).1
    have hin2:=(hf.r _ (List.getElem_mem hi)).2.2
    refine⟨(G.rs[i]'hi).r,hE,fun y hb=>zbb G.rs (Gm.best G (Gm.hts G)) AR G.rs.length cR gH gL gS G.ns.length B m i y (by rw[Gm.best_len];exact hjn) hi hbi Gm.best_len.symm rfl (hL.below hb hgL) (hR.blw hb hB) (Nat.le_trans hB (Nat.le_trans hbase hb.size)),fun A c v ys y ho hb hrd hl=>?_⟩
    rw[hE]at hl ⊢
    exact ih _ hPr2 hTop2 hin2 (by omega) A c v ys base y ho (Nat.le_trans hbase hb.size) hB hgL (hL.below hb hgL) (hR.blw hb hB) hrd hl))
  have HTK:=aA (fun k (hk:k<r.length)=>Gm.lword_take hok hPr hk)
  have HTL:=aA (fun k=>Gm.lword_len hok hPr k)
  have HTT:=aA (fun(z:Int) (hz:¬z<0)=>Gm.lword_term hok hz)
  have HNL:=aA (Gm.lword_nil G hok)
  have HLEN:=aA hlen
  have HI:=aA (fun z w=>zaC z w)
  have HX:=aA (fun z (hz:z∈r) w=>zaX z (hin z hz).1 (hin z hz).2 w)
  have hrlen:(r.length:Int)≤9223372036854775807:=by omega
  obtain⟨w1,hw1⟩:∃y,y=w.alloc (.cells #[.slice AR G.rs.length cR,.slice (some ⟨gH,0,none⟩) G.ns.length G.ns.length,.slice (some ⟨gL,0,none⟩) G.ns.length G.ns.length,.slice (some ⟨gS,0,none⟩) G.ns.length G.ns.length] 48):=⟨_,rfl⟩
  have hbx:w1.heap[w.heap.size]?=some (.cells #[.slice AR G.rs.length cR,.slice (some ⟨gH,0,none⟩) G.ns.length G.ns.length,.slice (some ⟨gL,0,none⟩) G.ns.length G.ns.length,.slice (some ⟨gS,0,none⟩) G.ns.length G.ns.length] 48 (0,0)):=by rw[hw1];exact heap_alloc_new w _
  have HB1:Hid (Below base w w1):=aA (by rw[hw1];exact(Below.refl _ _).alloc hbase _)
  have HK1:Hid (KeepX 3 w w1):=aA (by rw[hw1];exact(KeepX.refl _ _).alloc _)
  have HO1:Hid (aK w1 base v (xs++Gm.lword G (r.take 0))):=aA (by rw[List.take_zero,HNL.out,List.append_nil,hw1];exact hown.alloc _)
  have HX1:=aA hbx
  have HBS:=aA hbase
  have HBB:=aA hB
  clear hPr hTop hin hrl hown hB hgL hL hR hri hlen hbx hbase
  go_enter Try.func19,Try.ntmps19
  go_upto_region 1 with fail
  rw[←hw1]
  clear hw1
  go_wp2
  go_loopw [1,11] (fun vl vi wr=>∃(k:Nat) (VL:Value),VL=vl∧k≤r.length∧vi=.int .i64 k∧Hid (aK wr base VL (xs++Gm.lword G (r.take k)))∧Hid (Below base w wr)∧Hid (KeepX 3 w wr)∧Hid (wr.heap[w.heap.size]?=some (.cells #[.slice AR G.rs.length cR,.slice (some ⟨gH,0,none⟩) G.ns.length G.ns.length,.slice (some ⟨gL,0,none⟩) G.ns.length G.ns.length,.slice (some ⟨gS,0,none⟩) G.ns.length G.ns.length] 48 (0,0)))) (fun _ vi _=>r.length-(intOf vi).toNat)
  case atStart=>exact⟨0,_,rfl,Nat.zero_le _,rfl,HO1,HB1,HK1,HX1⟩
  case round =>
   clear HO1 HB1 HK1 HX1
   obtain⟨k,VL,rfl,hk,rfl,HO,HB,HK,HX0⟩:=hrel
   by_cases hlt:k<r.length
   ·obtain⟨g,o,rfl,hgb,hc⟩:=(HRW.out.below HB.out HBB.out) (by omega)
    have k0:=hc k hlt
    rw[L.gd_lt hlt]at k0
    have hmz:=List.getElem_mem hlt
    have HIz:=aA (fun w=>HI.out r[k] w)
    have HXz:=aA (fun w=>HX.out r[k] hmz w)
    have HTz:=aA (HTK.out k hlt)
    have HT1:=aA (HTT.out r[k])
    have HSTz:=aA (fun(m:Nat) (hm:-1-r[k]=(m:Int))=>HST.out m r[k] hmz hm)
    have HLz:Hid (xs.length+((Gm.lword G (r.take k)).length+(Gm.lword G [r[k]]).length)≤1000000):=aA (by
     have h1:=HTL.out (k+1)
     rw[HTz.out,List.length_append]at h1
     have h2:=HLEN.out
     omega)
    have hlb:=(Array.getElem?_eq_some_iff.1 HX0.out).1
    clear hc hmz
    generalize r[k]=z at *
    by_cases h0:z<0
    ·obtain⟨m,hm⟩:∃m:Nat,-1-z=(m:Int):=⟨(-1-z).toNat,by omega⟩
     rw[hm]at HXz
     obtain⟨x,_,hs2,hs3⟩:=HSTz.out m hm
     have HSR:=aA hs2
     have HSW:=aA hs3
     rw[decide_eq_true h0]at HIz
     have x0:=fun y:OnP [w.heap.size] wr=>y.row (j:=0) (by simp) HX0.out rfl
     have x1:=fun y:OnP [w.heap.size] wr=>y.row (j:=1) (by simp) HX0.out rfl
     have x2:=fun y:OnP [w.heap.size] wr=>y.row (j:=2) (by simp) HX0.out rfl
     have x3:=fun y:OnP [w.heap.size] wr=>y.row (j:=3) (by simp) HX0.out rfl
     have HOQ:Hid (∀x,x.heap[w.heap.size]?=wr.heap[w.heap.size]?→∃y:OnP [w.heap.size] wr,x=y.1):=aA (fun x h1=>⟨⟨x,fun g hg=>by simp at hg;subst hg;exact h1⟩,rfl⟩)
     have HOD:Hid (aK wr.drew base VL (xs++Gm.lword G (r.take k))):=HO
     have HBD:Hid (Below base w wr.drew):=aA (aB HB.out 1)
     have HKD:Hid (KeepX 3 w wr.drew):=aA (HK.out.drewN 1)
     have HXD:Hid (wr.drew.heap[w.heap.size]?=some (.cells #[.slice AR G.rs.length cR,.slice (some ⟨gH,0,none⟩) G.ns.length G.ns.length,.slice (some ⟨gL,0,none⟩) G.ns.length G.ns.length,.slice (some ⟨gS,0,none⟩) G.ns.length G.ns.length] 48 (0,0))):=HX0
     clear h0 hm HSTz HT1 hs2 hs3
     go_upto_region 5 with fail
     refine(HIz.out _).mono ?_;rintro _ wr ⟨rfl,rfl⟩
     go_upto_region 5 with fail
     refine CalmN.region_tree (fun x=>∃y:OnP [w.heap.size] wr,x=y.1) (.one [0,1,2,3] 4 (.one [] 5 (.one [] 6 (.fin [7])))) (by kernel_rfl) (by kernel_rfl) (fun _ _ d _ _ h=>by cases d <;> exact h) (HOQ.out _ rfl) ?_
     simp only[CalmN.wpT,CalmN.wpSt,CalmN.pickOps,List.getElem?_toArray,List.getElem?_cons_zero,List.getElem?_cons_succ]
     repeat (go_big_quiet_step (fail))
     refine wpQuiet_nil ?_
     generalize wr.drew=wd at *
     intro KK hKK
     rw[if_pos (by rfl)]
     go_wp2_with fail
     refine(HXz.out _).mono ?_;rintro _ wd ⟨rfl,rfl⟩
     go_wp2_with fail
     refine hKK _ _ (HOQ.out _ (HXD.out.trans HX0.out.symm)) (fun x=>∃y:OnP [w.heap.size] wr,x=y.1) (fun _ h=>h) (HOQ.out _ (HXD.out.trans HX0.out.symm)) ?_
     clear hKK
     refine wpQuiet_nil ?_
     intro KK hKK
     rw[if_pos (by rfl)]
     go_wp2_with fail
     refine(HSR.out _ HBD.out).mono ?_;rintro _ we ⟨⟨A5,c5,rfl,_,hr5⟩,hb⟩
     have HR5:=aA (hr5.below hb (Nat.le_trans HBB.out (Nat.le_trans HBS.out HBD.out.size)))
     have HBE:=aA (HBD.out.trans (hb.mono (Nat.le_trans HBS.out HBD.out.size)))
     have HKE:=aA (HKD.out.trans (KeepX.of_below hb))
     have HXE:=aA ((hb.block _ (Array.getElem?_eq_some_iff.1 HXD.out).1).trans HXD.out)
     have HOE:=aA (HOD.out.below hb (Nat.le_refl _))
     clear hb hr5
     go_wp2_with fail
     refine hKK _ _ (HOQ.out _ (HXE.out.trans HX0.out.symm)) (fun x=>∃y:OnP [w.heap.size] wr,x=y.1) (fun _ h=>h) (HOQ.out _ (HXE.out.trans HX0.out.symm)) ?_
     clear hKK
     refine wpQuiet_nil ?_
     intro KK hKK
     rw[if_pos (by rfl)]
     go_wp2_with fail
     refine(HSW.out _ _ _ _ _ HOE.out HBE.out HR5.out (by have:=HLz.out;simp;omega)).mono ?_;rintro _ wf ⟨v',rfl,ho,hb,hx⟩
     have HBF:=aA (HBE.out.trans hb)
     have HKF:=aA (HKE.out.trans hx)
     have HXF:=aA (hx.row HXE.out (by decide))
     have HOF:Hid (aK wf base v' (xs++Gm.lword G (r.take (k+1)))):=aA (by
      rw[HTz.out,←List.append_assoc];exact ho)
     clear ho hb hx
     go_wp2_with fail
     refine hKK _ _ (HOQ.out _ (HXF.out.trans HX0.out.symm)) (fun x=>∃y:OnP [w.heap.size] wr,x=y.1) (fun _ h=>h) (HOQ.out _ (HXF.out.trans HX0.out.symm)) ?_
     clear hKK
     repeat (go_big_quiet_step (fail))
     refine wpQuiet_nil ?_
     clear x0 x1 x2 x3
     go_wp2
     go_roundw
     case rel=>exact⟨k+1,_,rfl,hlt,by go_num,HOF,HBF,HKF,HXF⟩
     case measure=>simp[intOf];omega
    ·rw[decide_eq_false h0]at HIz
     have HTq:=aA (HTz.out.trans (by rw[HT1.out (by omega)]))
     have HLX:Hid ((xs++Gm.lword G (r.take k)).length≤1000000000000):=aA (by have:=HLz.out;simp;omega)
     have HSB:Hid (∀o:Obj,base≤(wr.alloc o).heap.size):=aA (fun o=>by have:=HB.out.size;have:=HBS.out;simp;omega)
     clear h0 HSTz HT1 HXz HTz HLz
     go_upto_region 6 with fail
     refine(HIz.out _).mono ?_;rintro _ wr ⟨rfl,rfl⟩
     go_upto_region 7 with(at_builtin;refine zbe rfl (.tmp 24) (.tmp 26) _ rfl Try.underlying27 base _ _ rfl (HO.out.alloc _) _ 1 z rfl (World.cell?_alloc_new _ _ _ 0) HLX.out (HSB.out _) ?_;intro v2 w2 ho2 hg2)
     have HB2:=aA (zay (HB.out.alloc (Nat.le_trans HBS.out HB.out.size) _) (HO.out.alloc _) hg2 (HSB.out _))
     have HK2:=aA (KeepX.grown (HK.out.alloc _) (HO.out.alloc _) hg2)
     have HX2:=aA (KeepX.row (KeepX.grown ((KeepX.refl _ wr).alloc _) (HO.out.alloc _) hg2) HX0.out (by decide))
     have HO2:Hid (aK w2 base v2 (xs++Gm.lword G (r.take (k+1)))):=aA (by rw[HTq.out,←List.append_assoc];exact ho2)
     clear ho2 hg2
     go_wp2
     go_roundw
     case rel=>exact⟨k+1,_,rfl,hlt,by go_num,HO2,HB2,HK2,HX2⟩
     case measure=>simp[intOf];omega
   ·obtain rfl:k=r.length:=by omega
    rw[List.take_length]at HO
    go_wp2
    go_ret
    exact⟨_,rfl,HO.out,HB.out,HK.out⟩
def zhg (b:Bool) (s:List Int) (w:World) (e:Ending) (w':World):Prop :=
 (b=true→∃g,e=.returned (.slice (some ⟨g,0,none⟩) s.length s.length)∧w.heap.size≤g∧UBI w' g s∧Below w.heap.size w w')∧(b=false→e=.returned (.slice none 0 0)∧Below w.heap.size w w')
def zcB (L:List Int) (E:Int) (w:World) (e:Ending) (w':World):Prop:=∃A c,e=.returned (.tuple #[.slice A L.length c,.int .i64 E])∧L.length≤c∧RdI w' w'.heap.size A L∧Below w.heap.size w w'
theorem zcB.no {L:List Int} {E E':Int} {w w':World} (hE:E=E') (hL:L=[]) (hb:Below w.heap.size w w'):zcB L E w (.returned (.tuple #[.slice none 0 0,.int .i64 E'])) w':=by
 subst hE hL
 exact⟨none,0,rfl,Nat.le_refl _,RdI.nil _ _ _,hb⟩
theorem zcB.yes {L:List Int} {E E':Int} {w w':World} {v:Value} {base:Nat} (hE:E=E') (ho:aK w' base v L) (hb:Below w.heap.size w w'):zcB L E w (.returned (.tuple #[v,.int .i64 E'])) w':=by
 subst hE
 obtain⟨A,c,rfl,h1,_,h2⟩:=ho.form
 exact⟨A,c,rfl,h1,h2,hb⟩
theorem zcT (v:Value) (G:Gm.Gr) (B:Nat) (w:World) (hg:aS w B v G) (hf:Gm.Fit G) (hB:B≤w.heap.size) :
  Calls Try.prog 10 #[v] w (zhg (Gm.right G) (Gm.htI G) w):=by
 have H1:=aA (fun(x:World) (h:Below w.heap.size w x)=>zaY v G B x (hg.below h hB) hf (Nat.le_trans hB h.size))
 have H2:=aA (fun(q:Gm.right G=true) (x:World) (h:Below w.heap.size w x)=>zaw v G B x (hg.below h hB) hf (Gm.right_ok.1 q) (Nat.le_trans hB h.size))
 obtain⟨AT,cT,AN,cN,AR,cR,rfl,_⟩:=hg
 have HS0:=aA (One.start w #[.slice AT G.ts.length cT,.slice AN G.ns.length cN,.slice AR G.rs.length cR,.int .i64 G.st])
 clear hf
 cases q:Gm.right G
 ·rw[q]at H1
  clear q H2
  go_enter Try.func10,Try.ntmps10
  go_wp2_with fail
  refine(H1.out _ HS0.out.below).mono ?_;rintro _ w2 ⟨rfl,hb⟩
  have HB2:=aA (HS0.out.on hb)
  clear hb
  go_wp2
  go_ret
  exact⟨fun h=>by simp at h,fun _=>⟨rfl,HB2.out.below⟩⟩
 ·have H2:=aA (H2.out q)
  rw[q]at H1
  clear q
  go_enter Try.func10,Try.ntmps10
  go_wp2_with fail
  refine(H1.out _ HS0.out.below).mono ?_;rintro _ w2 ⟨rfl,hb⟩
  have HB2:=aA (HS0.out.on hb)
  have q0:=HB2.out.c 0 _ rfl
  have q1:=HB2.out.c 1 _ rfl
  have q2:=HB2.out.c 2 _ rfl
  have q3:=HB2.out.c 3 _ rfl
  have hz2:w.heap.size<w2.heap.size:=HB2.out.size
  clear hb
  go_wp2_with fail
  refine(H2.out _ HB2.out.below).mono ?_;rintro _ w3 ⟨AR',cR',gH,gL,gS,rfl,h1,h2,h3,u1,u2,u3,_,hb3⟩
  have HX:=aA (And.intro h1 u1)
  have HB3:=aA (HB2.out.on hb3)
  clear h1 h2 h3 u1 u2 u3 hb3
  have FL:=fun(a b c d:Value) (w:World)=>(show(Instr.field 48 (.agg #[a,b,c,d]) 1).run Try.prog w=.ok b w from by kernel_rfl)
  go_wp2
  go_ret
  exact⟨fun _=>⟨gH,by rw[Gm.htI_len];rfl,by have:=HX.out.1;omega,HX.out.2,HB3.out.below⟩,fun h=>by simp at h⟩
theorem zd0 (v:Value) (G:Gm.Gr) (B:Nat) (w:World) (hg:aS w B v G) (hf:Gm.Fit G) (hB:B≤w.heap.size) :
  Calls Try.prog 11 #[v] w (zhg (Gm.right G) (Gm.best G (Gm.hts G)) w):=by
 have H1:=aA (fun(x:World) (h:Below w.heap.size w x)=>zaY v G B x (hg.below h hB) hf (Nat.le_trans hB h.size))
 have H2:=aA (fun(q:Gm.right G=true) (x:World) (h:Below w.heap.size w x)=>zaw v G B x (hg.below h hB) hf (Gm.right_ok.1 q) (Nat.le_trans hB h.size))
 obtain⟨AT,cT,AN,cN,AR,cR,rfl,_⟩:=hg
 have HS0:=aA (One.start w #[.slice AT G.ts.length cT,.slice AN G.ns.length cN,.slice AR G.rs.length cR,.int .i64 G.st])
 clear hf
 cases q:Gm.right G
 ·rw[q]at H1
  clear q H2
  go_enter Try.func11,Try.ntmps11
  go_wp2_with fail
  refine(H1.out _ HS0.out.below).mono ?_;rintro _ w2 ⟨rfl,hb⟩
  have HB2:=aA (HS0.out.on hb)
  clear hb
  go_wp2
  go_ret
  exact⟨fun h=>by simp at h,fun _=>⟨rfl,HB2.out.below⟩⟩
 ·have H2:=aA (H2.out q)
  rw[q]at H1
  clear q
  go_enter Try.func11,Try.ntmps11
  go_wp2_with fail
  refine(H1.out _ HS0.out.below).mono ?_;rintro _ w2 ⟨rfl,hb⟩
  have HB2:=aA (HS0.out.on hb)
  have q0:=HB2.out.c 0 _ rfl
  have q1:=HB2.out.c 1 _ rfl
  have q2:=HB2.out.c 2 _ rfl
  have q3:=HB2.out.c 3 _ rfl
  have hz2:w.heap.size<w2.heap.size:=HB2.out.size
  clear hb
  go_wp2_with fail
  refine(H2.out _ HB2.out.below).mono ?_;rintro _ w3 ⟨AR',cR',gH,gL,gS,rfl,h1,h2,h3,u1,u2,u3,_,hb3⟩
  have HX:=aA (And.intro h2 u2)
  have HB3:=aA (HB2.out.on hb3)
  clear h1 h2 h3 u1 u2 u3 hb3
  have FL:=fun(a b c d:Value) (w:World)=>(show(Instr.field 48 (.agg #[a,b,c,d]) 2).run Try.prog w=.ok c w from by kernel_rfl)
  go_wp2
  go_ret
  exact⟨fun _=>⟨gL,by rw[Gm.best_len];rfl,by have:=HX.out.1;omega,HX.out.2,HB3.out.below⟩,fun h=>by simp at h⟩
theorem Gm.neH_htI {G:Gm.Gr} (hok:Gm.Ok G) {z:Int} (hz:z<0→-1-z<(G.ns.length:Int)):Gm.neH (Gm.htI G) z=Gm.tr (z<0∧¬Gm.Gn true G.rs (-1-z)):=by
 unfold Gm.neH
 rw[Bool.eq_iff_iff,Gm.tr_iff,Bool.and_eq_true,decide_eq_true_eq,beq_iff_eq,Gm.htI_at]
 constructor
 ·rintro⟨h1,h2⟩
  refine⟨h1,?_⟩
  have h3:=hz h1
  have h4:=(Gm.hts_zero hok (j:=(-1-z).toNat) (by omega)).1 (by omega)
  rwa [Int.toNat_of_nonneg (by omega)]at h4
 ·rintro⟨h1,h2⟩
  refine⟨h1,?_⟩
  have h3:=hz h1
  rw[(Gm.hts_zero hok (j:=(-1-z).toNat) (by omega)).2 (by rw[Int.toNat_of_nonneg (by omega)];exact h2)];rfl
theorem zcS (v:Value) (G:Gm.Gr) (n:Int) (B:Nat) (w:World) (hg:aS w B v G) (hf:Gm.Fit G) (hn:Gm.In n) (hB:B≤w.heap.size) :
  Calls Try.prog 9 #[v,.int .i64 n] w (zcB (Gm.trL G n) (Gm.trE G n) w):=by
 have H1:=aA (fun(x:World) (h:Below w.heap.size w x)=>zaY v G B x (hg.below h hB) hf (Nat.le_trans hB h.size))
 have H2:=aA (fun(q:Gm.right G=true) (x:World) (h:Below w.heap.size w x)=>zaw v G B x (hg.below h hB) hf (Gm.right_ok.1 q) (Nat.le_trans hB h.size))
 obtain⟨AT,cT,AN,cN,AR,cR,rfl,_,⟨hlN,hmN⟩,_⟩:=hg
 have HS0:=aA (One.start w #[.slice AT G.ts.length cT,.slice AN G.ns.length cN,.slice AR G.rs.length cR,.int .i64 G.st])
 have HF:=aA hf
 have HB:=aA hB
 have HNI:=aA hn
 clear hf hn hB
 cases q:Gm.right G with
 | false =>
  rw[q]at H1
  have HE:=aA (Gm.trE_arg (G:=G) (n:=n) (by rw[q];simp))
  clear q H2
  go_enter Try.func9,Try.ntmps9
  go_wp2_with fail
  refine(H1.out _ HS0.out.below).mono ?_;rintro _ w2 ⟨rfl,hb⟩
  have HB2:=aA (HS0.out.on hb)
  clear hb
  go_wp2
  go_ret2
  exact zcB.no HE.out (Gm.trL_no (by rw[HE.out];decide)) HB2.out.below
 | true =>
  have H2:=aA (H2.out q)
  have HOK:=aA (Gm.right_ok.1 q)
  have HQ:=aA q
  have HN:=aA ((Gm.nons_iff G).1 HOK.out.n).2.1
  rw[q]at H1
  clear q
  go_enter Try.func9,Try.ntmps9
  go_wp2_with fail
  refine(H1.out _ HS0.out.below).mono ?_;rintro _ w2 ⟨rfl,hb⟩
  have HB2:=aA (HS0.out.on hb)
  have q0:=HB2.out.c 0 _ rfl
  have q1:=HB2.out.c 1 _ rfl
  have q2:=HB2.out.c 2 _ rfl
  have q3:=HB2.out.c 3 _ rfl
  have hz2:w.heap.size<w2.heap.size:=HB2.out.size
  clear hb H1
  by_cases hn0:n<0
  ·have HE:=aA (Gm.trE_arg (G:=G) (n:=n) (by omega))
   have d0:=decide_eq_true hn0
   clear hn0
   go_wp2
   go_ret2
   exact zcB.no HE.out (Gm.trL_no (by rw[HE.out];decide)) HB2.out.below
  ·have d0:=decide_eq_false hn0
   by_cases hn1:n<(G.ns.length:Int)
   ·have d1:decide ((G.ns.length:Int)≤n)=false:=decide_eq_false (by omega)
    obtain⟨j,rfl⟩:∃j:Nat,n=(j:Int):=⟨n.toNat,by omega⟩
    have hj:j<G.ns.length:=by omega
    clear hn0
    go_upto_region 3 with fail
    go_upto_region 4 with fail
    refine(H2.out _ HB2.out.below).mono ?_;rintro _ w3 ⟨AR',cR',gH,gL,gS,rfl,h1,h2,h3,u1,u2,u3,hR3,hb3⟩
    obtain⟨w4,hw4⟩:∃y,y=w3.alloc (.cells #[.slice AR' G.rs.length cR',.slice (some ⟨gH,0,none⟩) G.ns.length G.ns.length,.slice (some ⟨gL,0,none⟩) G.ns.length G.ns.length,.slice (some ⟨gS,0,none⟩) G.ns.length G.ns.length] 48):=⟨_,rfl⟩
    have hb34:Below w3.heap.size w3 w4:=by rw[hw4];exact(Below.refl _ _).alloc (Nat.le_refl _) _
    have HKB:Hid (w4.heap[w3.heap.size]?=some (.cells #[.slice AR' G.rs.length cR',.slice (some ⟨gH,0,none⟩) G.ns.length G.ns.length,.slice (some ⟨gL,0,none⟩) G.ns.length G.ns.length,.slice (some ⟨gS,0,none⟩) G.ns.length G.ns.length] 48 (0,0))):=aA (by rw[hw4];exact heap_alloc_new w3 _)
    have HB4:=aA (HB2.out.on (hb3.trans (hb34.mono hb3.size)))
    have HU1:=aA (u1.below hb34 u1.lt)
    have HU2:=aA (u2.below hb34 u2.lt)
    have HU3:=aA (u3.below hb34 u3.lt)
    have HR4:=aA (hR3.blw hb34 (by have h:=HB.out;have h':=HB2.out.below.size;have:=hb3.size;omega))
    have HLT:=aA (And.intro u1.lt (And.intro u2.lt u3.lt))
    clear h1 h2 h3 u1 u2 u3 hR3 hb34 hb3 q0 q1 q2 q3 hz2 H2
    go_upto_region 4 with fail
    rw[←hw4]
    clear hw4
    have hlb:=(Array.getElem?_eq_some_iff.1 HKB.out).1
    have x0:=fun y:Calm.On w4.heap.size w4=>(y.2.cell (p:=⟨w3.heap.size,0,none⟩) hlb).trans (cell_of_row w4 _ 0 _ _ _ HKB.out)
    have x1:=fun y:Calm.On w4.heap.size w4=>(y.2.cell (p:=⟨w3.heap.size,1,none⟩) hlb).trans (cell_of_row w4 _ 1 _ _ _ HKB.out)
    have x2:=fun y:Calm.On w4.heap.size w4=>(y.2.cell (p:=⟨w3.heap.size,2,none⟩) hlb).trans (cell_of_row w4 _ 2 _ _ _ HKB.out)
    have x3:=fun y:Calm.On w4.heap.size w4=>(y.2.cell (p:=⟨w3.heap.size,3,none⟩) hlb).trans (cell_of_row w4 _ 3 _ _ _ HKB.out)
    have HX:=aA (fun w=>zaX (j:Int) (by omega) (by omega) w)
    have HNE:=aA (fun(y:World) (h:Below w4.heap.size w4 y)=>zb8 (-1-(j:Int)) (Gm.htI G) AR' G.rs.length cR' gH gL gS G.ns.length y (by unfold Gm.In;omega) (fun _=>by rw[Gm.htI_len];omega) Gm.htI_len.symm (HU1.out.below h HU1.out.lt))
    rw[Gm.neH_htI HOK.out (fun _=>by omega),show -1-(-1-(j:Int))=(j:Int) by omega]at HNE
    obtain⟨nb,hnb⟩:∃nb,nb=Gm.tr ((-1-(j:Int))<0∧¬Gm.Gn true G.rs (j:Int)):=⟨_,rfl⟩
    rw[←hnb]at HNE
    have HNB:=aA hnb
    clear hnb
    have HSB:Hid (∀z,Below w4.heap.size w4 z→∃q:Calm.On w4.heap.size w4,z=q.1):=aA (fun z hz=>⟨⟨z,hz⟩,rfl⟩)
    have HD:Hid (Below w4.heap.size w4 w4.drew):=aA (aB (Below.refl _ _) 1)
    refine CalmN.region_tree (fun x=>∃y:Calm.On w4.heap.size w4,x=y.1) (.one [0,1] 2 (.one [] 3 (.fin []))) (by kernel_rfl) (by kernel_rfl) (fun _ _ d _ _ h=>by cases d <;> exact h) ⟨⟨w4.drew,HD.out⟩,rfl⟩ ?_
    simp only[CalmN.wpT,CalmN.wpSt,CalmN.pickOps,List.getElem?_toArray,List.getElem?_cons_zero,List.getElem?_cons_succ]
    repeat (go_big_quiet_step (fail))
    refine wpQuiet_nil ?_
    generalize w4.drew=wd at *
    intro KK hKK
    rw[if_pos (by rfl)]
    go_wp2_with fail
    refine(HX.out wd).mono ?_;rintro _ wd ⟨rfl,rfl⟩
    go_wp2_with fail
    refine hKK _ _ (HSB.out _ HD.out) (fun x=>∃y:Calm.On w4.heap.size w4,x=y.1) (fun _ h=>h) (HSB.out _ HD.out) ?_
    clear hKK
    refine wpQuiet_nil ?_
    intro KK hKK
    rw[if_pos (by rfl)]
    go_wp2_with fail
    refine(HNE.out wd HD.out).mono ?_;rintro _ we ⟨rfl,hb⟩
    have HE4:=aA (HD.out.trans (hb.mono HD.out.size))
    have HQE:=aA (HB4.out.on HE4.out)
    clear hb
    go_wp2_with fail
    refine hKK _ _ (HSB.out _ HE4.out) (fun x=>∃y:Calm.On w4.heap.size w4,x=y.1) (fun _ h=>h) (HSB.out _ HE4.out) ?_
    clear hKK x0 x1 x2 x3
    refine wpQuiet_nil ?_
    by_cases hp:Gm.Gn true G.rs (j:Int)
    ·obtain rfl:nb=false:=HNB.out.trans (Gm.tr_no.2 (fun h=>h.2 hp))
     have hs0:=(HU3.out.below HE4.out HU3.out.lt).cell za7 j 0 (by rw[Gm.szL_len];exact hj) _ rfl
     have esz:(Gm.szL G)[j]'(by rw[Gm.szL_len];exact hj)=Gm.szC G [-1-(j:Int)]:=by
      have e1:=Gm.szL_at (G:=G) hj
      rw[List.getD_eq_getElem?_getD,List.getElem?_eq_getElem (by rw[Gm.szL_len];exact hj)]at e1
      simp only[Option.getD_some]at e1
      rw[e1,Gm.szN,if_pos hp]
     rw[esz,Nat.add_zero]at hs0
     have hle:=Gm.szC_le (G:=G) (l:=[-1-(j:Int)])
     have HTE:Hid (Gm.trE G (j:Int)=if(Gm.ltree G [-1-(j:Int)]).length≤300 then 0 else 13):=aA (by unfold Gm.trE;rw[if_pos ⟨HQ.out,by omega,hn1⟩,if_pos (Gm.tr_iff.2 hp)])
     have hkb:=(HE4.out.block _ hlb).trans HKB.out
     have x0:=cell_of_row we _ 0 _ _ _ hkb
     have x1:=cell_of_row we _ 1 _ _ _ hkb
     have x2:=cell_of_row we _ 2 _ _ _ hkb
     have x3:=cell_of_row we _ 3 _ _ _ hkb
     have lb:=(Array.getElem?_eq_some_iff.1 hkb).1
     have ls:gS<we.heap.size:=Nat.lt_of_lt_of_le HU3.out.lt HE4.out.size
     generalize (Gm.szC G [-1-(j:Int)]).1=s at *
     have hz3:decide ((300:Int)<(s:Int))=decide (300<s):=by rw[Bool.eq_iff_iff,decide_eq_true_eq,decide_eq_true_eq];omega
     by_cases h3:s≤300
     ·have HT0:Hid (Gm.trE G (j:Int)=0):=aA (by rw[HTE.out,if_pos (hle.1 h3)])
      have HTL:Hid (Gm.trL G (j:Int)=oiN (Gm.ltree G [-1-(j:Int)])):=aA (by unfold Gm.trL;rw[if_pos HT0.out])
      have d3:decide (300<s)=false:=decide_eq_false (by omega)
      rw[d3]at hz3
      have HWT:=aA (zed G HOK.out HF.out AR' cR' gH gL gS B _ j hp (Nat.le_refl _) (.slice none 0 0) [] we.heap.size we (aK.nil _ _) (Nat.le_refl _) (Nat.le_trans HB.out HQE.out.below.size) (Nat.lt_of_lt_of_le HU2.out.lt HE4.out.size) (HU2.out.below HE4.out HU2.out.lt) (HR4.out.blw HE4.out (Nat.le_trans HB.out HB4.out.below.size)) (by have:=hle.1 h3;simp;omega))
      clear esz HTE hp h3 hle hkb d3
      go_upto_region 8 with fail
      go_wp2_with fail
      refine HWT.out.mono ?_;rintro _ wf ⟨v',rfl,ho,hbf,_⟩
      have HOF:Hid (aK wf we.heap.size v' (Gm.trL G (j:Int))):=aA (by rw[HTL.out];exact ho)
      have HBF:=aA (HQE.out.below.trans (hbf.mono HQE.out.below.size))
      clear ho hbf
      go_wp2
      go_ret2
      exact zcB.yes HT0.out HOF.out HBF.out
     ·have HT0:Hid (Gm.trE G (j:Int)=13):=aA (by rw[HTE.out,if_neg (fun h=>h3 (hle.2 h))])
      have d3:decide (300<s)=true:=decide_eq_true (by omega)
      rw[d3]at hz3
      clear esz HTE hp h3 hle hkb d3
      go_wp2
      go_ret2
      exact zcB.no HT0.out (Gm.trL_no (by rw[HT0.out];decide)) HQE.out.below
    ·obtain rfl:nb=true:=HNB.out.trans (Gm.tr_iff.2 ⟨by omega,hp⟩)
     have HTE:Hid (Gm.trE G (j:Int)=9):=aA (by unfold Gm.trE;rw[if_pos ⟨HQ.out,by omega,hn1⟩,if_neg (fun h=>hp (Gm.tr_iff.1 h))])
     clear hp
     go_wp2
     go_ret2
     exact zcB.no HTE.out (Gm.trL_no (by rw[HTE.out];decide)) HQE.out.below
   ·have HE:=aA (Gm.trE_arg (G:=G) (n:=n) (by omega))
    have d1:decide ((G.ns.length:Int)≤n)=true:=decide_eq_true (by omega)
    clear hn0 hn1
    go_wp2
    go_ret2
    exact zcB.no HE.out (Gm.trL_no (by rw[HE.out];decide)) HB2.out.below
end Go.Proofs.Ytcgclkndkahgaaa
namespace Go.Proofs.Ytcgclkndkahgaaa
set_option maxRecDepth 100000
set_option maxHeartbeats 40000000
open Go.ChangeShapes Go.WideShapes Go.Deep Go.RowKit Go.Joins
section
variable {H:Type} {enc:TypeId×Value→H} {P:Program} {w:World} {base:Nat} {spare:Nat→Bool} {held:Bool}
theorem zcO {t e:TypeId} {fs:Array Field} {fuel:Nat} {cs:List Value} {x:DataW H×List MemPlace} (ht:P.underlying t=some (.slice e)) (he:P.underlying e=some (.struct fs))
  (hone:oneCellFields P fs=true) (hC:P.cellsOf e=fs.size) (h:DataW.trod enc P w base spare held fuel t cs=some x) :
  cs=[.slice none 0 0] ∨
  ∃(a:Addr) (len cap:Nat),cs=[.slice (some a) len cap]∧len≤cap∧cap≤maxLen ∧
   ∀i,i<len→∀(j:Nat) (f:Field),fs[j]?=some f→∃(v:Value) (y:DataW H×List MemPlace) (n:Nat),w.cell? (a.add (i*fs.size+j))=some v∧DataW.trod enc P w base spare held n f.type [v]=some y:=by
 rcases open_slice ht h with h0|⟨a,len,cap,m,n,D,Pl,hcs,hb,hl,hm,hmm,hx,hi⟩
 ·exact .inl h0.1
 ·refine .inr ⟨a,len,cap,hcs,hl,hm,fun i him j f hj=>?_⟩
  obtain⟨cs',hc,ht'⟩:=hi i (by rw[hmm];split <;> omega)
  rw[hC]at hc
  obtain⟨ys,n',hn',hy,hlen,hyl,hf⟩:=DataW.trod_struct he ht'
  obtain⟨_,hcl,hat⟩:=World.cells?_some hc
  obtain⟨ho,hk⟩:=hone_of hone j f hj
  have hjl:j<fs.size:=(Array.getElem?_eq_some_iff.1 hj).1
  have hcell:=hat j hjl
  have hv:cs'[j]?=some (cs'[j]'(by omega)):=List.getElem?_eq_getElem (by omega)
  have h1:=hf j f hj
  rw[ho,hk]at h1
  have hone':(cs'.drop j).take 1=[cs'[j]'(by omega)]:=by
   rw[List.drop_eq_getElem_cons (by omega)]
   rfl
  rw[hone']at h1
  have hys:ys[j]?=some (ys[j]'(by omega)):=List.getElem?_eq_getElem (by omega)
  refine⟨_,_,n',?_,h1.trans hys⟩
  rw[←Go.Deep.add_add,hcell,hv]
theorem zaS {a:Addr} {k:Nat} {v:Value} (h:w.cell? (a.add k)=some v) (hk:k=0):a=⟨a.block,a.off,none⟩:=by
 subst hk
 obtain⟨b,o,s⟩:=a
 obtain rfl:s=none:=by simpa[Addr.add] using World.cell?_spot h
 rfl
theorem zfy {t e:TypeId} {f0 f1 f2:Field} {fuel:Nat} {cs:List Value} {x:DataW H×List MemPlace} (ht:P.underlying t=some (.slice e)) (he:P.underlying e=some (.struct #[f0,f1,f2]))
  (hone:oneCellFields P #[f0,f1,f2]=true) (hC:P.cellsOf e=3) (h0:P.underlying f0.type=some .string) (h1:P.underlying f1.type=some (.int .i64)) (h2:P.underlying f2.type=some (.int .i64)) (h:DataW.trod enc P w base spare held fuel t cs=some x) :
  ∃A n c ts,cs=[.slice A n c]∧n=ts.length∧n≤c∧c≤9223372036854775807∧zfb w w.heap.size A ts∧∀x∈ts,K.Tx x.nm∧Gm.In x.lv∧Gm.In x.wy:=by
 rcases zcO ht he hone hC h with rfl|⟨a,len,cap,rfl,hl,hm,hi⟩
 ·exact⟨none,0,0,[],rfl,rfl,Nat.le_refl _,by omega,fun h=>absurd rfl h,fun x hx=>by simp at hx⟩
 ·have hp:∀i,i<len→∃t:Gm.Tm,(w.cell? (a.add (i*3))=some (.string (K.str t.nm))∧w.cell? (a.add (i*3+1))=some (.int .i64 t.lv)∧w.cell? (a.add (i*3+2))=some (.int .i64 t.wy))∧K.Tx t.nm∧Gm.In t.lv∧Gm.In t.wy:=fun i hil=>by
   obtain⟨v0,y0,n0,c0,t0⟩:=hi i hil 0 f0 rfl
   obtain⟨v1,y1,n1,c1,t1⟩:=hi i hil 1 f1 rfl
   obtain⟨v2,y2,n2,c2,t2⟩:=hi i hil 2 f2 rfl
   obtain⟨s,e0,_,hs0⟩:=DataW.trod_string h0 t0
   obtain⟨z1,e1,_,w1⟩:=DataW.trod_int h1 t1
   obtain⟨z2,e2,_,w2⟩:=DataW.trod_int h2 t2
   injection e0 with e0;injection e1 with e1;injection e2 with e2
   subst e0 e1 e2
   obtain⟨l,hl,rfl⟩:=K.txt s hs0
   exact⟨⟨l,z1,z2⟩,⟨c0,c1,c2⟩,hl,bounds_i64 w1,bounds_i64 w2⟩
  obtain⟨ts,htl,hts⟩:=zdd len _ hp
  refine⟨some a,len,cap,ts,rfl,htl.symm,hl,by unfold maxLen at hm;omega,fun hn=>?_,fun x hx=>?_⟩
  ·have ha:=zaS (hts 0 (by omega)).1.1 (Nat.zero_mul 3)
   refine⟨a.block,a.off,congrArg some ha,?_,fun i hi=>?_⟩
   ·have:=block_lt_of_cell (hts 0 (by omega)).1.1
    simpa[Addr.add] using this
   ·have:=(hts i hi).1
    rw[ha,add_plain,add_plain,add_plain]at this
    exact this
  ·obtain⟨i,hi,rfl⟩:=List.getElem_of_mem hx
   exact(hts i hi).2
theorem zfz {t e u:TypeId} {f0 f1 f2:Field} {fuel:Nat} {cs:List Value} {x:DataW H×List MemPlace} (ht:P.underlying t=some (.slice e)) (he:P.underlying e=some (.struct #[f0,f1,f2]))
  (hone:oneCellFields P #[f0,f1,f2]=true) (hC:P.cellsOf e=3) (h0:P.underlying f0.type=some (.int .i64)) (h1:P.underlying f1.type=some (.slice u)) (hu:P.underlying u=some (.int .i64)) (hcu:P.cellsOf u=1) (h2:P.underlying f2.type=some (.int .i64)) (h:DataW.trod enc P w base spare held fuel t cs=some x) :
  ∃A n c rs,cs=[.slice A n c]∧n=rs.length∧n≤c∧c≤9223372036854775807∧zc1 w w.heap.size A rs∧∀x∈rs,Gm.In x.l∧Gm.In x.p∧∀z∈x.r,Gm.In z:=by
 rcases zcO ht he hone hC h with rfl|⟨a,len,cap,rfl,hl,hm,hi⟩
 ·exact⟨none,0,0,[],rfl,rfl,Nat.le_refl _,by omega,fun h=>absurd rfl h,fun x hx=>by simp at hx⟩
 ·have hp:∀i,i<len→∃t:Gm.Rl,(w.cell? (a.add (i*3))=some (.int .i64 t.l)∧(∃A' c',w.cell? (a.add (i*3+1))=some (.slice A' t.r.length c')∧t.r.length≤c'∧c'≤9223372036854775807∧RdI w w.heap.size A' t.r)∧w.cell? (a.add (i*3+2))=some (.int .i64 t.p))∧Gm.In t.l∧Gm.In t.p∧∀z∈t.r,Gm.In z:=fun i hil=>by
   obtain⟨v0,y0,n0,c0,t0⟩:=hi i hil 0 f0 rfl
   obtain⟨v1,y1,n1,c1,t1⟩:=hi i hil 1 f1 rfl
   obtain⟨v2,y2,n2,c2,t2⟩:=hi i hil 2 f2 rfl
   obtain⟨z0,e0,_,w0⟩:=DataW.trod_int h0 t0
   obtain⟨z2,e2,_,w2⟩:=DataW.trod_int h2 t2
   injection e0 with e0;injection e2 with e2
   subst e0 e2
   rcases open_ints h1 hu hcu t1 with⟨hcs,_⟩|⟨x,l,c,zs,hcs,_,hl,hm,hz,hx,hcell,hwz⟩
   ·injection hcs with hcs
    subst hcs
    exact⟨⟨z0,[],z2⟩,⟨c0,⟨none,0,c1,Nat.le_refl _,by omega,RdI.nil _ _ _⟩,c2⟩,bounds_i64 w0,bounds_i64 w2,fun z hz=>by simp at hz⟩
   ·injection hcs with hcs
    subst hcs
    have hzl:l≤zs.length:=by rw[hz];split <;> omega
    refine⟨⟨z0,zs.take l,z2⟩,⟨c0,⟨some x,c,?_,?_,by unfold maxLen at hm;omega,fun hn=>?_⟩,c2⟩,bounds_i64 w0,bounds_i64 w2,fun z hz=>bounds_i64 (hwz z (List.mem_of_mem_take hz))⟩
    ·have hln:(zs.take l).length=l:=by rw[List.length_take];omega
     show w.cell? (a.add (i*3+1))=some (.slice (some x) (zs.take l).length c)
     rw[hln];exact c1
    ·show(zs.take l).length≤c
     rw[List.length_take];omega
    ·have hl0:0<zs.length:=by simp at hn;omega
     have ha:=zaS (hcell 0 hl0) rfl
     refine⟨x.block,x.off,congrArg some ha,?_,fun j hj=>?_⟩
     ·have:=block_lt_of_cell (hcell 0 hl0)
      simpa[Addr.add] using this
     ·have hj':j<l:=by simp at hj;omega
      have h1:=hcell j (by omega)
      rw[ha,add_plain]at h1
      rw[h1]
      simp only[List.getD,List.getElem?_take]
      rw[if_pos hj']
  obtain⟨ts,htl,hts⟩:=zdd len _ hp
  refine⟨some a,len,cap,ts,rfl,htl.symm,hl,by unfold maxLen at hm;omega,fun hn=>?_,fun x hx=>?_⟩
  ·have ha:=zaS (hts 0 (by omega)).1.1 (Nat.zero_mul 3)
   refine⟨a.block,a.off,congrArg some ha,?_,fun i hi=>?_⟩
   ·have:=block_lt_of_cell (hts 0 (by omega)).1.1
    simpa[Addr.add] using this
   ·have:=(hts i hi).1
    rw[ha,add_plain,add_plain,add_plain]at this
    exact this
  ·obtain⟨i,hi,rfl⟩:=List.getElem_of_mem hx
   exact(hts i hi).2
theorem zfx {t e:TypeId} {fuel:Nat} {cs:List Value} {x:DataW H×List MemPlace} (ht:P.underlying t=some (.slice e)) (he:P.underlying e=some .string) (hC:P.cellsOf e=1) (h:DataW.trod enc P w base spare held fuel t cs=some x) :
  ∃A n c ns,cs=[.slice A n c]∧n=ns.length∧n≤c∧c≤9223372036854775807∧RdN w w.heap.size A ns∧∀x∈ns,K.Tx x:=by
 rcases open_strings ht he hC h with⟨hcs,_⟩|⟨x,l,c,ss,hcs,_,hl,hm,hz,_,hcell,hsz⟩
 ·exact⟨none,0,0,[],hcs,rfl,Nat.le_refl _,by omega,fun h=>absurd rfl h,fun x hx=>by simp at hx⟩
 ·have hzl:l≤ss.length:=by rw[hz];split <;> omega
  have hp:∀i,i<l→∃t:List Int,w.cell? (x.add i)=some (.string (K.str t))∧K.Tx t:=fun i hi=>by
   obtain⟨t,ht,he⟩:=K.txt (ss.getD i ByteArray.empty) (hsz _ (by rw[List.getD_eq_getElem?_getD,List.getElem?_eq_getElem (by omega)];exact List.getElem_mem _))
   exact⟨t,by rw[hcell i (by omega),he],ht⟩
  obtain⟨ns,hnl,hns⟩:=zdd l _ hp
  refine⟨some x,l,c,ns,hcs,hnl.symm,hl,by unfold maxLen at hm;omega,fun hn=>?_,fun y hy=>?_⟩
  ·have ha:=zaS (hns 0 (by omega)).1 rfl
   refine⟨x.block,x.off,congrArg some ha,?_,fun j hj=>?_⟩
   ·have:=block_lt_of_cell (hns 0 (by omega)).1
    simpa[Addr.add] using this
   ·have h1:=(hns j hj).1
    rw[ha,add_plain]at h1
    exact h1
  ·obtain⟨i,hi,rfl⟩:=List.getElem_of_mem hy
   exact(hns i hi).2
theorem zeH {r:Reach} {b0:Nat} {t e1 e2 e3 u:TypeId} {f0 f1 f2 f3 x0 x1 x2 y0 y1 y2:Field} {v:Value} {d:DataW H} {p:List MemPlace} (hs:P.underlying t=some (.struct #[f0,f1,f2,f3])) (hone:oneCellFields P #[f0,f1,f2,f3]=true) (hC:P.cellsOf t=4)
  (hf0:P.underlying f0.type=some (.slice e1)) (he1:P.underlying e1=some (.struct #[x0,x1,x2])) (ho1:oneCellFields P #[x0,x1,x2]=true) (hc1:P.cellsOf e1=3) (hx0:P.underlying x0.type=some .string) (hx1:P.underlying x1.type=some (.int .i64)) (hx2:P.underlying x2.type=some (.int .i64))
  (hf1:P.underlying f1.type=some (.slice e2)) (he2:P.underlying e2=some .string) (hc2:P.cellsOf e2=1)
  (hf2:P.underlying f2.type=some (.slice e3)) (he3:P.underlying e3=some (.struct #[y0,y1,y2])) (ho3:oneCellFields P #[y0,y1,y2]=true) (hc3:P.cellsOf e3=3) (hy0:P.underlying y0.type=some (.int .i64)) (hy1:P.underlying y1.type=some (.slice u)) (hu:P.underlying u=some (.int .i64)) (hcu:P.cellsOf u=1) (hy2:P.underlying y2.type=some (.int .i64))
  (hf3:P.underlying f3.type=some (.int .i64))
  (hv:Value.okWide P w r b0 t v) (h:DataW.Trod enc P w base spare held t v d p) :
  ∃G,aS w w.heap.size v G∧Gm.Fit G:=by
 obtain⟨v0,v1,v2,v3,y0',y1',y2',y3',n,rfl,_,_,k0,k1,k2,k3⟩:=open_agg4 hs hone hC hv h
 obtain⟨AT,nT,cT,ts,e0,hn0,l0,m0,r0,w0⟩:=zfy hf0 he1 ho1 hc1 hx0 hx1 hx2 k0
 obtain⟨AR,nR,cR,rs,e2',hn2,l2,m2,r2,w2⟩:=zfz hf2 he3 ho3 hc3 hy0 hy1 hu hcu hy2 k2
 obtain⟨z,e3',_,w3⟩:=DataW.trod_int hf3 k3
 obtain⟨AN,nN,cN,ns,e1',hn1,l1,m1,r1,w1⟩:=zfx hf1 he2 hc2 k1
 injection e0 with e0;injection e1' with e1';injection e2' with e2';injection e3' with e3'
 subst e0 e1' e2' e3' hn0 hn1 hn2
 exact⟨⟨ts,ns,rs,z⟩,⟨AT,cT,AN,cN,AR,cR,rfl,⟨l0,m0⟩,⟨l1,m1⟩,⟨l2,m2⟩,r0,r1,r2⟩,⟨w0,w1,w2,bounds_i64 w3⟩⟩
end
end Go.Proofs.Ytcgclkndkahgaaa
