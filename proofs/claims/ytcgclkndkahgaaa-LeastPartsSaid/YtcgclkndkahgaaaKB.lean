/- Part of the proofs over this program: CfgNames, CfgLevels, CfgRules, CfgRight, PlaceAt, LexScan, YaccL, CfgL, CfgR, CfgR2, CfgEq, TrimL, TrimR, TrimD, FirstL, CycleL, CycleO, YaccW, LexToks, YaccRd, YaccDecl, BldE, BldF, BldH. -/
import Derived.Deep.DeepCutAuto
import Derived.Defers
import Derived.Recover
import Derived.Test.YtcgclkndkahgaaaKA
namespace Go.Proofs.Ytcgclkndkahgaaa
set_option maxRecDepth 100000
set_option maxHeartbeats 40000000
open Go.RowKit
def zga:Mw.Enc Try.prog 9 (List Int) where
 enc s:=.string (K.str s)
 ok:=K.Tx
 key s h:=⟨_,Go.WideMaps.keyOf_string_mk Try.underlying9 (by rw[K.str_size];unfold maxLen;exact h.2)⟩
 inj x y hx hy h:=by injection h with h;exact(K.str_eq hx.1 hy.1).1 h
theorem strK:Maps.Keyed Try.prog 9:=Maps.string_keyed Try.underlying9
theorem zdh (s:List Int) (hs:K.Tx s) (w:World) :
  Calls Try.prog 41 #[.string (K.str s)] w fun e w'=>e=.returned (.bool (Gm.named s))∧Below w.heap.size w w':=by
 have HN:=aA (fun w=>zdC s hs.1 w)
 have HL:=aA (fun w=>zgl s hs.1 hs.2 w)
 unfold Gm.named
 clear hs
 cases q:T.isName s
 ·rw[q]at HN
  clear q
  generalize T.isLit s=b at *
  go_enter Try.func41,Try.ntmps41
  go_wp2_with fail
  refine(HN.out _).mono ?_;rintro _ w1 ⟨rfl,hb⟩
  have HB:=aA hb
  clear hb
  go_wp2_with fail
  refine(HL.out _).mono ?_;rintro _ _ ⟨rfl,rfl⟩
  go_wp2
  go_ret
  exact⟨aF (by simp),HB.out⟩
 ·rw[q]at HN
  clear q
  go_enter Try.func41,Try.ntmps41
  go_wp2_with fail
  refine(HN.out _).mono ?_;rintro _ w1 ⟨rfl,hb⟩
  have HB:=aA hb
  clear hb
  go_wp2
  go_ret
  exact⟨aF (by simp),HB.out⟩
def dd:List (List Int)→List (List Int)→List (List Int)
 | acc,[]=>acc
 | acc,s::r=>dd (if s∈acc then acc else acc++[s]) r
theorem zgs (acc l:List (List Int)) (s:List Int):dd acc (l++[s])=if s∈dd acc l then dd acc l else dd acc l++[s]:=by
 induction l generalizing acc with
 | nil=>rfl
 | cons x r ih=>rw[List.cons_append,dd,dd,ih]
theorem zhc (acc l:List (List Int)) (hn:acc.Nodup):(dd acc l).length≤acc.length+l.length∧((dd acc l).length=acc.length+l.length↔(acc++l).Nodup):=by
 induction l generalizing acc with
 | nil=>simp[dd,hn]
 | cons x r ih =>
  rw[dd]
  by_cases hx:x∈acc
  ·rw[if_pos hx]
   have:=(ih acc hn).1
   refine⟨by rw[List.length_cons];omega,⟨fun e=>by rw[List.length_cons]at e;omega,fun h=>?_⟩⟩
   rw[List.nodup_append]at h
   exact absurd rfl (h.2.2 x hx x (by simp))
  ·rw[if_neg hx]
   have hn':(acc++[x]).Nodup:=by
    rw[List.nodup_append]
    exact⟨hn,by simp,fun a ha b hb e=>by rw[List.mem_singleton]at hb;subst hb e;exact hx ha⟩
   have:=ih (acc++[x]) hn'
   rw[List.length_append,List.length_singleton,List.append_assoc,List.singleton_append]at this
   refine⟨by have:=this.1;rw[List.length_cons];omega,?_⟩
   rw[←this.2,List.length_cons]
   omega
def nmL (l:List (List Int)):List (List Int×Value):=(dd [] l).map fun s=>(s,.bool true)
theorem ze4 (l:List (List Int)) (s:List Int):Mw.asc (nmL l) s=if s∈dd [] l then some (.bool true) else none:=by
 unfold nmL
 generalize dd [] l=m
 induction m with
 | nil=>rfl
 | cons x r ih =>
  rw[List.map_cons,Mw.asc,ih]
  by_cases h:x=s
  ·subst h;simp
  ·rw[if_neg h]
   have:s≠x:=fun e=>h e.symm
   simp[this]
theorem zdB (l:List (List Int)) (s:List Int):(if Mw.asc (nmL l) s=none then nmL l++[(s,.bool true)] else nmL l)=nmL (l++[s]):=by
 rw[ze4]
 unfold nmL
 rw[zgs]
 by_cases h:s∈dd [] l
 ·rw[if_pos h,if_pos h];rfl
 ·rw[if_neg h,if_neg h,if_pos rfl,List.map_append];rfl
theorem zf4 (l:List (List Int)) (s:List Int):Mw.asc (nmL l) s=none∨Mw.asc (nmL l) s=some (.bool true):=by
 rw[ze4]
 split
 ·exact .inr rfl
 ·exact .inl rfl
def rnB (G:Gm.Gr):Bool:=decide (G.ts.length≤24)&&decide (1≤G.ns.length)&&decide (G.ns.length≤16)&&(G.ts.all fun t=>Gm.named t.nm)&&(G.ns.all T.isName)&&decide ((nmL (Gm.names G.ts++G.ns)).length=G.ts.length+G.ns.length)
theorem rn_t {G:Gm.Gr} {k:Nat} (h:k<G.ts.length) (hn:Gm.named G.ts[k].nm=false):rnB G=false:=by
 unfold rnB
 have:(G.ts.all fun t=>Gm.named t.nm)=false:=List.all_eq_false.2 ⟨_,List.getElem_mem h,by rw[hn];simp⟩
 rw[this];simp
theorem rn_n {G:Gm.Gr} {k:Nat} (h:k<G.ns.length) (hn:T.isName G.ns[k]=false):rnB G=false:=by
 unfold rnB
 have:(G.ns.all T.isName)=false:=List.all_eq_false.2 ⟨_,List.getElem_mem h,by rw[hn];simp⟩
 rw[this];simp
def zds {α:Type} (l:List α) (f:α→Bool) (k:Nat):Prop:=∀i (h:i<l.length),i<k→f l[i]=true
theorem zds.zero {α:Type} (l:List α) (f:α→Bool):zds l f 0:=fun _ _ h=>by omega
theorem zds.next {α:Type} {l:List α} {f:α→Bool} {k:Nat} (h:zds l f k) (hk:k<l.length) (hn:f l[k]=true):zds l f (k+1):=fun i hi hik=>by
 rcases Nat.lt_or_ge i k with q|q
 ·exact h i hi q
 ·obtain rfl:i=k:=by omega
  exact hn
theorem zds.all {α:Type} {l:List α} {f:α→Bool} (h:zds l f l.length):l.all f=true:=by
 rw[List.all_eq_true]
 intro x hx
 obtain⟨i,hi,rfl⟩:=List.getElem_of_mem hx
 exact h i hi hi
theorem zcD {α:Type} {l:List α} {k:Nat} (h:k<l.length):l.take (k+1)=l.take k++[l[k]]:=List.take_succ_eq_append_getElem h
theorem zbR (v:Value) (G:Gm.Gr) (B:Nat) (w:World) (hg:aS w B v G) (hf:Gm.Fit G) (hB:B≤w.heap.size) :
  Calls Try.prog 25 #[v] w fun e w'=>e=.returned (.bool (rnB G))∧Below w.heap.size w w':=by
 obtain⟨AT,cT,AN,cN,AR,cR,rfl,⟨hlT,hmT⟩,⟨hlN,hmN⟩,_,ht,hn,_⟩:=hg
 have HT:=aA ht
 have HN:=aA hn
 have HF:=aA hf
 have HS0:=aA (One.start w #[.slice AT G.ts.length cT,.slice AN G.ns.length cN,.slice AR G.rs.length cR,.int .i64 G.st])
 have hlenT:(G.ts.length:Int)≤9223372036854775807:=by omega
 have hlenN:(G.ns.length:Int)≤9223372036854775807:=by omega
 clear ht hn hf
 by_cases h24:24<G.ts.length
 ·have HX:Hid (rnB G=false):=aA (by unfold rnB;rw[decide_eq_false (show ¬G.ts.length≤24 by omega)];rfl)
  rw[HX.out]
  go_enter Try.func25,Try.ntmps25
  go_wp2
  go_ret
  exact⟨rfl,HS0.out.below⟩
 by_cases h0:G.ns.length<1
 ·have HX:Hid (rnB G=false):=aA (by unfold rnB;rw[decide_eq_false (show ¬1≤G.ns.length by omega)];simp)
  have e0:((G.ns.length:Int)==0)=true:=beq_iff_eq.2 (by omega)
  rw[HX.out]
  clear h0
  go_enter Try.func25,Try.ntmps25
  go_wp2
  go_ret
  exact⟨rfl,HS0.out.below⟩
 have e0:((G.ns.length:Int)==0)=false:=beq_eq_false_iff_ne.2 (by omega)
 by_cases h16:16<G.ns.length
 ·have HX:Hid (rnB G=false):=aA (by unfold rnB;rw[decide_eq_false (show ¬G.ns.length≤16 by omega)];simp)
  rw[HX.out]
  clear h0
  go_enter Try.func25,Try.ntmps25
  go_wp2
  go_ret
  exact⟨rfl,HS0.out.below⟩
 clear h0
 have hmm:=@run_makeMap Try.prog
 have HM0:=aA (Mw.MapIs.made zga (w.alloc (.cells #[.slice AT G.ts.length cT,.slice AN G.ns.length cN,.slice AR G.rs.length cR,.int .i64 G.st] 26)))
 have hs1:(w.alloc (.cells #[.slice AT G.ts.length cT,.slice AN G.ns.length cN,.slice AR G.rs.length cR,.int .i64 G.st] 26)).heap.size=w.heap.size+1:=by simp
 rw[hs1]at HM0
 have HS1:=aA (HS0.out.alloc (.map #[] 0))
 clear hs1
 go_enter Try.func25,Try.ntmps25
 go_wp2
 go_loopw [28] (fun vi wr=>∃(k:Nat),k≤G.ts.length∧vi=.int .i64 k∧Hid (zds G.ts (fun t=>Gm.named t.nm) k)∧One w #[.slice AT G.ts.length cT,.slice AN G.ns.length cN,.slice AR G.rs.length cR,.int .i64 G.st] wr∧Hid (Mw.MapIs zga wr (w.heap.size+1) (nmL (Gm.names (G.ts.take k))))) (fun vi _=>G.ts.length-(intOf vi).toNat)
 case atStart=>exact⟨0,Nat.zero_le _,rfl,aA (zds.zero _ _),HS1.out,HM0⟩
 case round =>
  obtain⟨k,hk,rfl,HA,hb,HM⟩:=hrel
  have HB:=aA hb
  have hz:w.heap.size<wr.heap.size:=hb.size
  have hz1:w.heap.size+1<wr.heap.size:=HM.out.lt
  have hbw:=hb.below
  have q1:=hb.c 1 _ rfl
  clear hb
  by_cases hlt:k<G.ts.length
  ·obtain⟨g,o,rfl,hgb,hc⟩:=HT.out (by omega)
   have k0:=(hbw.cell (p:=⟨g,o+k*3,none⟩) (Nat.lt_of_lt_of_le hgb hB)).trans (hc k hlt).1
   have k1:=(hbw.cell (p:=⟨g,o+k*3+1,none⟩) (Nat.lt_of_lt_of_le hgb hB)).trans (hc k hlt).2.1
   have k2:=(hbw.cell (p:=⟨g,o+k*3+2,none⟩) (Nat.lt_of_lt_of_le hgb hB)).trans (hc k hlt).2.2
   have hgs:g<wr.heap.size:=by omega
   have hft:=(HF.out.t _ (List.getElem_mem hlt)).1
   have HNM:=aA (fun x=>zdh _ hft x)
   have HTX:=aA hft
   have HA':=aA (fun h=>HA.out.next hlt h)
   have HNO:=aA (fun h=>rn_t hlt h)
   have HNX:Hid (nmL (Gm.names (G.ts.take k)++[G.ts[k].nm])=nmL (Gm.names (G.ts.take (k+1)))):=aA (by rw[zcD hlt];unfold Gm.names;rw[List.map_append];rfl)
   clear hc hbw hft
   generalize G.ts[k].nm=nm at *
   generalize G.ts[k].lv=lv at *
   generalize G.ts[k].wy=wy at *
   cases q:Gm.named nm
   ·have HX:=aA (HNO.out q)
    rw[q]at HNM
    clear q
    go_wp2_with fail
    refine(HNM.out _).mono ?_;rintro _ w2 ⟨rfl,hb2⟩
    have HB2:=aA ((HB.out.alloc _).on hb2)
    clear hb2
    go_wp2
    go_ret
    exact⟨aF HX.out.symm,HB2.out.below⟩
   ·have HX:=aA (HA'.out q)
    rw[q]at HNM
    clear q
    go_wp2_with fail
    refine(HNM.out _).mono ?_;rintro _ w2 ⟨rfl,hb2⟩
    have HB2:=aA ((HB.out.alloc _).on hb2)
    have hbb:=(hb2.block wr.heap.size (by simp)).trans (heap_alloc_new wr _)
    have hz2:wr.heap.size<w2.heap.size:=(Array.getElem?_eq_some_iff.1 hbb).1
    have f0:=cell_of_row w2 _ 0 _ _ _ hbb
    have HM2:=aA ((HM.out.kept (World.grownBy_alloc wr _ none) (by simp)).kept (zae hb2 none) (by simp))
    clear hb2 hbb
    have HST:=aA (Mw.run_store (x:=nm) HM2.out strK Try.underlying88 HTX.out (.bool true) (zf4 _ _))
    go_wp2_with (at_mapUpdate;refine Mw.wpList_store rfl _ _ _ _ rfl HST.out rfl rfl rfl ?_;rintro w3 ⟨hm3,hg3⟩)
    have HB3:=aA (Below.grown HB2.out hg3 HB2.out.size (fun k e=>by injection e with e;omega))
    have HM3:Hid (Mw.MapIs zga w3 (w.heap.size+1) (nmL (Gm.names (G.ts.take (k+1))))):=aA (by rw[←HNX.out,←zdB];exact hm3)
    clear hm3 hg3
    go_roundw
    case rel=>exact⟨k+1,by omega,by go_num,HX,HB3.out,HM3⟩
    case measure=>simp[intOf];omega
  ·obtain rfl:k=G.ts.length:=by omega
   have HA1:=aA HA.out.all
   have HM1:Hid (Mw.MapIs zga wr (w.heap.size+1) (nmL (Gm.names G.ts++G.ns.take 0))):=aA (by have h:=HM.out;rw[List.take_length]at h;rw[List.take_zero,List.append_nil];exact h)
   clear hbw hk hlt HA HM
   go_wp2
   go_loopw [43] (fun vi wr=>∃(k:Nat),k≤G.ns.length∧vi=.int .i64 k∧Hid (zds G.ns T.isName k)∧One w #[.slice AT G.ts.length cT,.slice AN G.ns.length cN,.slice AR G.rs.length cR,.int .i64 G.st] wr∧Hid (Mw.MapIs zga wr (w.heap.size+1) (nmL (Gm.names G.ts++G.ns.take k)))) (fun vi _=>G.ns.length-(intOf vi).toNat)
   case atStart=>exact⟨0,Nat.zero_le _,rfl,aA (zds.zero _ _),HB.out,HM1⟩
   case round =>
    clear q1 hz hz1 HB HM1
    obtain⟨k,hk,rfl,HA,hb,HM⟩:=hrel
    have HB:=aA hb
    have hz:w.heap.size<wr.heap.size:=hb.size
    have hz1:w.heap.size+1<wr.heap.size:=HM.out.lt
    have hbw:=hb.below
    have q0:=hb.c 0 _ rfl
    have q1:=hb.c 1 _ rfl
    clear hb
    by_cases hlt:k<G.ns.length
    ·obtain⟨g,o,rfl,hgb,hc⟩:=HN.out (by omega)
     have k0:=(hbw.cell (p:=⟨g,o+k,none⟩) (Nat.lt_of_lt_of_le hgb hB)).trans (hc k hlt)
     have hgs:g<wr.heap.size:=by omega
     have hft:=HF.out.n _ (List.getElem_mem hlt)
     have HNM:=aA (fun x=>zdC _ hft.1 x)
     have HTX:=aA hft
     have HA':=aA (fun h=>HA.out.next hlt h)
     have HNO:=aA (fun h=>rn_n hlt h)
     have HNX:Hid (nmL (Gm.names G.ts++G.ns.take k++[G.ns[k]])=nmL (Gm.names G.ts++G.ns.take (k+1))):=aA (by rw[zcD hlt,List.append_assoc])
     obtain⟨s,qs⟩:∃t,t=G.ns[k]:=⟨_,rfl⟩
     rw[←qs]at k0 HNM HTX HA' HNO HNX
     clear hc hbw hft qs
     cases q:T.isName s
     ·have HX:=aA (HNO.out q)
      rw[q]at HNM
      clear q
      go_wp2_with fail
      refine(HNM.out _).mono ?_;rintro _ w2 ⟨rfl,hb2⟩
      have HB2:=aA (HB.out.on hb2)
      clear hb2
      go_wp2
      go_ret
      exact⟨aF HX.out.symm,HB2.out.below⟩
     ·have HX:=aA (HA'.out q)
      rw[q]at HNM
      clear q
      go_wp2_with fail
      refine(HNM.out _).mono ?_;rintro _ w2 ⟨rfl,hb2⟩
      have HB2:=aA (HB.out.on hb2)
      have HM2:=aA (HM.out.kept (zae hb2 none) (by simp))
      clear hb2
      have HST:=aA (Mw.run_store (x:=s) HM2.out strK Try.underlying88 HTX.out (.bool true) (zf4 _ _))
      go_wp2_with (at_mapUpdate;refine Mw.wpList_store rfl _ _ _ _ rfl HST.out rfl rfl rfl ?_;rintro w3 ⟨hm3,hg3⟩)
      have HB3:=aA (Below.grown HB2.out hg3 HB2.out.size (fun k e=>by injection e with e;omega))
      have HM3:Hid (Mw.MapIs zga w3 (w.heap.size+1) (nmL (Gm.names G.ts++G.ns.take (k+1)))):=aA (by rw[←HNX.out,←zdB];exact hm3)
      clear hm3 hg3
      go_roundw
      case rel=>exact⟨k+1,by omega,by go_num,HX,HB3.out,HM3⟩
      case measure=>simp[intOf];omega
    ·obtain rfl:k=G.ns.length:=by omega
     have HA2:=aA HA.out.all
     have HM1:Hid (Mw.MapIs zga wr (w.heap.size+1) (nmL (Gm.names G.ts++G.ns))):=aA (by have h:=HM.out;rw[List.take_length]at h;exact h)
     have hL:=Mw.run_len HM1.out Try.underlying88 3
     have HX:Hid (rnB G=(((nmL (Gm.names G.ts++G.ns)).length:Int)==(G.ts.length:Int)+(G.ns.length:Int))):=aA (by
      unfold rnB
      rw[HA1.out,HA2.out,decide_eq_true (show G.ts.length≤24 by omega),decide_eq_true (show 1≤G.ns.length by have:=beq_eq_false_iff_ne.1 e0;omega),decide_eq_true (show G.ns.length≤16 by omega)]
      simp only[Bool.true_and]
      rw[Bool.eq_iff_iff]
      simp only[decide_eq_true_eq,beq_iff_eq]
      omega)
     generalize (nmL (Gm.names G.ts++G.ns)).length=m at *
     clear hbw hk hlt HA HM HM1
     go_wp2_with (simp only[hL])
     go_ret
     exact⟨aF HX.out.symm,HB.out.below⟩
def intE:Mw.Enc Try.prog 3 Int where
 enc z:=.int .i64 z
 ok:=Gm.In
 key z h:=⟨_,Maps.keyOf_int_mk Try.underlying3 (WalkArith.wf_i64 (by unfold Gm.In at h;omega))⟩
 inj x y _ _ h:=by injection h
theorem zhv:Maps.Keyed Try.prog 3:=Maps.int_keyed Try.underlying3
def asB (t:Gm.Tm):Bool:=if t.wy=0 then t.lv==0 else if t.wy=1∨t.wy=2∨t.wy=3 then decide (0<t.lv) else false
theorem zbS (t:Gm.Tm) (w:World) :
  Calls Try.prog 43 #[.agg #[.string (K.str t.nm),.int .i64 t.lv,.int .i64 t.wy]] w fun e w'=>e=.returned (.bool (asB t))∧Below w.heap.size w w':=by
 have HB:=aA (fun o=>(Below.refl w.heap.size w).alloc (Nat.le_refl _) o)
 obtain⟨nm,lv,wy⟩:=t
 unfold asB
 simp only
 generalize K.str nm=s at *
 by_cases h0:wy=0
 ·subst h0
  rw[if_pos rfl]
  go_enter Try.func43,Try.ntmps43
  go_wp2
  go_ret
  exact⟨rfl,HB.out _⟩
 rw[if_neg h0]
 by_cases h1:wy=1
 ·subst h1
  rw[if_pos (by simp)]
  go_enter Try.func43,Try.ntmps43
  go_wp2
  go_ret
  exact⟨rfl,HB.out _⟩
 by_cases h2:wy=2
 ·subst h2
  rw[if_pos (by simp)]
  go_enter Try.func43,Try.ntmps43
  go_wp2
  go_ret
  exact⟨rfl,HB.out _⟩
 by_cases h3:wy=3
 ·subst h3
  rw[if_pos (by simp)]
  go_enter Try.func43,Try.ntmps43
  go_wp2
  go_ret
  exact⟨rfl,HB.out _⟩
 rw[if_neg (by omega)]
 have e0:(wy==0)=false:=beq_eq_false_iff_ne.2 h0
 have e1:(wy==1)=false:=beq_eq_false_iff_ne.2 h1
 have e2:(wy==2)=false:=beq_eq_false_iff_ne.2 h2
 have e3:(wy==3)=false:=beq_eq_false_iff_ne.2 h3
 go_enter Try.func43,Try.ntmps43
 go_wp2
 go_ret
 exact⟨rfl,HB.out _⟩
def zcQ (m:List (Int×Int)) (t:Gm.Tm):List (Int×Int):=if 0<t.lv then(if Mw.asc m t.lv=none then m++[(t.lv,t.wy)] else m) else m
def rlF:List Gm.Tm→List (Int×Int)→Int→Bool
 | [],m,g=>(m.length:Int)==g
 | t::r,m,g=>if asB t=false then false else if(Mw.asc m t.lv).isSome=true∧(Mw.asc m t.lv).getD 0≠t.wy then false else rlF r (zcQ m t) (max g t.lv)
theorem zfq {ts:List Gm.Tm} {k:Nat} (h:k<ts.length) (m:List (Int×Int)) (g:Int):rlF (ts.drop k) m g=if asB ts[k]=false then false else if(Mw.asc m ts[k].lv).isSome=true∧(Mw.asc m ts[k].lv).getD 0≠ts[k].wy then false else rlF (ts.drop (k+1)) (zcQ m ts[k]) (max g ts[k].lv):=by
 rw[List.drop_eq_getElem_cons h,rlF]
theorem zge {ts:List Gm.Tm} {k:Nat} (h:ts.length≤k) (m:List (Int×Int)) (g:Int):rlF (ts.drop k) m g=((m.length:Int)==g):=by
 rw[List.drop_eq_nil_of_le h,rlF]
def lvL (m:List (Int×Int)):List (Int×Value):=m.map fun p=>(p.1,.int .i64 p.2)
theorem zdp (m:List (Int×Int)) (z:Int):Mw.asc (lvL m) z=(Mw.asc m z).map (fun y=>.int .i64 y):=by
 unfold lvL
 induction m with
 | nil=>rfl
 | cons p r ih =>
  obtain⟨k,v⟩:=p
  rw[List.map_cons,Mw.asc,Mw.asc,ih]
  by_cases h:k=z
  ·rw[if_pos h,if_pos h];rfl
  ·rw[if_neg h,if_neg h]
theorem zdE (m:List (Int×Int)) (z:Int):(Mw.asc (lvL m) z).getD (.int .i64 0)=.int .i64 ((Mw.asc m z).getD 0)∧(Mw.asc (lvL m) z).isSome=(Mw.asc m z).isSome:=by
 rw[zdp]
 cases Mw.asc m z <;> exact⟨rfl,rfl⟩
theorem zfc (w:World):(zeroValue 3).run Try.prog w=.ok (.int .i64 0) w:=by kernel_rfl
theorem zbz (A:Option Addr) (c B:Nat) (ts:List Gm.Tm) (w:World) (ht:zfb w B A ts) (hf:∀x∈ts,K.Tx x.nm∧Gm.In x.lv∧Gm.In x.wy) (hB:B≤w.heap.size) (hlen:(ts.length:Int)≤9223372036854775807) :
  Calls Try.prog 26 #[.slice A ts.length c] w fun e w'=>e=.returned (.bool (rlF ts [] 0))∧Below w.heap.size w w':=by
 have HT:=aA ht
 have HF:=aA hf
 have hmm:=@run_makeMap Try.prog
 have HM0:=aA (Mw.MapIs.made intE w)
 have HS0:=aA ((Below.refl w.heap.size w).alloc (Nat.le_refl _) (.map #[] 0))
 clear ht hf
 go_enter Try.func26,Try.ntmps26
 go_wp2
 go_loopw [4,12] (fun vg vi wr=>∃(k:Nat) (m:List (Int×Int)) (g:Int),k≤ts.length∧vi=.int .i64 k∧vg=.int .i64 g∧Hid (rlF ts [] 0=rlF (ts.drop k) m g)∧Below w.heap.size w wr∧Hid (Mw.MapIs intE wr w.heap.size (lvL m))) (fun _ vi _=>ts.length-(intOf vi).toNat)
 case atStart=>exact⟨0,[],0,Nat.zero_le _,rfl,rfl,aA rfl,HS0.out,HM0⟩
 case round =>
  obtain⟨k,m,g,hk,rfl,rfl,HE,hb,HM⟩:=hrel
  have HB:=aA hb
  have hz:w.heap.size<wr.heap.size:=HM.out.lt
  by_cases hlt:k<ts.length
  ·obtain⟨gb,o,rfl,hgb,hc⟩:=HT.out (by omega)
   have k0:=(hb.cell (p:=⟨gb,o+k*3,none⟩) (Nat.lt_of_lt_of_le hgb hB)).trans (hc k hlt).1
   have k1:=(hb.cell (p:=⟨gb,o+k*3+1,none⟩) (Nat.lt_of_lt_of_le hgb hB)).trans (hc k hlt).2.1
   have k2:=(hb.cell (p:=⟨gb,o+k*3+2,none⟩) (Nat.lt_of_lt_of_le hgb hB)).trans (hc k hlt).2.2
   have hgs:gb<wr.heap.size:=by omega
   have hft:=(HF.out _ (List.getElem_mem hlt)).2
   have HIN:=aA hft
   have HAS:=aA (fun x=>zbS ts[k] x)
   have HR:=aA (zfq hlt m g)
   clear hc hft
   generalize ts[k]=t at *
   obtain⟨nm,lv,wy⟩:=t
   simp only at k0 k1 k2 HIN HAS HR
   have HM1:=aA (HM.out.kept (World.grownBy_alloc wr (.cells #[.string (K.str nm),.int .i64 lv,.int .i64 wy] 90) none) (by simp))
   have HLK:=Mw.run_look (x:=lv) HM1.out zhv Try.underlying92 (zfc _) HIN.out.1 true
   rw[if_pos rfl,(zdE m lv).1,(zdE m lv).2]at HLK
   have HLK':(Instr.lookup 92 (.map (some w.heap.size)) (.int .i64 lv) true).run Try.prog (wr.alloc (.cells #[.string (K.str nm),.int .i64 lv,.int .i64 wy] 90))=.ok (.tuple #[.int .i64 ((Mw.asc m lv).getD 0),.bool (Mw.asc m lv).isSome]) (wr.alloc (.cells #[.string (K.str nm),.int .i64 lv,.int .i64 wy] 90)):=HLK
   have HBA:=aA (fun o=>HB.out.alloc HB.out.size o)
   clear HLK hb
   generalize qa:asB ⟨nm,lv,wy⟩=ba at *
   clear qa
   cases ba
   ·have HX:=aA (HE.out.trans (HR.out.trans (if_pos rfl)))
    go_wp2_with fail
    refine(HAS.out _).mono ?_;rintro _ w2 ⟨rfl,hb2⟩
    have HB2:=aA ((HBA.out _).trans (hb2.mono (HBA.out _).size))
    clear hb2
    go_wp2
    go_ret
    exact⟨aF HX.out.symm,HB2.out⟩
   have HR1:=aA (HE.out.trans (HR.out.trans (if_neg (by simp))))
   have HSO:Hid (¬((Mw.asc m lv).isSome=true∧(Mw.asc m lv).getD 0≠wy)→Mw.asc (lvL m) lv=none∨Mw.asc (lvL m) lv=some (.int .i64 wy)):=aA (fun h=>by
    rw[zdp]
    cases q:Mw.asc m lv with
    | none=>exact .inl rfl
    | some y =>
     rw[q]at h
     have:y=wy:=Classical.byContradiction fun n=>h ⟨rfl,n⟩
     rw[this];exact .inr rfl)
   have HPUT:Hid (¬0<lv→zcQ m ⟨nm,lv,wy⟩=m):=aA (fun h=>by unfold zcQ;rw[if_neg h])
   have HPUT2:Hid (0<lv→lvL (zcQ m ⟨nm,lv,wy⟩)=if Mw.asc (lvL m) lv=none then lvL m++[(lv,.int .i64 wy)] else lvL m):=aA (fun h=>by
    unfold zcQ
    rw[if_pos h,zdp]
    cases q:Mw.asc m lv with
    | none=>simp[lvL]
    | some y=>simp)
   by_cases h2:(Mw.asc m lv).isSome=true∧(Mw.asc m lv).getD 0≠wy
   ·have HX:=aA (HR1.out.trans (if_pos h2))
    obtain⟨h3,h4⟩:=h2
    rw[h3]at HLK'
    have h5:((Mw.asc m lv).getD 0 != wy)=true:=by simpa using h4
    clear h3 h4 HSO
    generalize (Mw.asc m lv).getD 0=zs at *
    go_wp2_with fail
    refine(HAS.out _).mono ?_;rintro _ w2 ⟨rfl,hb2⟩
    have HB2:=aA ((HBA.out _).trans (hb2.mono (HBA.out _).size))
    have hbb:=(hb2.block wr.heap.size (by simp)).trans (heap_alloc_new wr _)
    have hz2:wr.heap.size<w2.heap.size:=(Array.getElem?_eq_some_iff.1 hbb).1
    have f1:=cell_of_row w2 _ 1 _ _ _ hbb
    have f2:=cell_of_row w2 _ 2 _ _ _ hbb
    clear hb2 hbb
    go_wp2
    go_ret
    exact⟨aF HX.out.symm,HB2.out⟩
   ·have HX:=aA (HR1.out.trans (if_neg h2))
    have HSS:=aA (HSO.out h2)
    have h3:((Mw.asc m lv).isSome&&((Mw.asc m lv).getD 0 != wy))=false:=by
     cases q:(Mw.asc m lv).isSome
     ·rfl
     ·rw[Bool.true_and]
      by_cases q2:(Mw.asc m lv).getD 0=wy
      ·rw[q2];simp
      ·exact absurd ⟨q,q2⟩ h2
    generalize qs:(Mw.asc m lv).isSome=kn at HLK' h3
    generalize qg:(Mw.asc m lv).getD 0=zs at HLK' h3
    clear h2 qs qg HSO HR1 HR HE
    by_cases hp:0<lv
    ·have HP:=aA (HPUT2.out hp)
     cases kn
     ·go_wp2_with fail
      refine(HAS.out _).mono ?_;rintro _ w2 ⟨rfl,hb2⟩
      have HB2:=aA ((HBA.out _).trans (hb2.mono (HBA.out _).size))
      have hbb:=(hb2.block wr.heap.size (by simp)).trans (heap_alloc_new wr _)
      have hz2:wr.heap.size<w2.heap.size:=(Array.getElem?_eq_some_iff.1 hbb).1
      have f1:=cell_of_row w2 _ 1 _ _ _ hbb
      have f2:=cell_of_row w2 _ 2 _ _ _ hbb
      have HM2:=aA (HM1.out.kept (zae hb2 none) (by simp))
      have HBC:=aA (fun(x:World) (h:w2.grownBy x (some w.heap.size))=>(cell_of_row x _ 1 _ _ _ ((h.block wr.heap.size hz2 (fun e=>by injection e with e;omega)).trans hbb)))
      clear hb2 hbb
      have HST:=aA (Mw.run_store (x:=lv) HM2.out zhv Try.underlying92 HIN.out.1 (.int .i64 wy) HSS.out)
      rw[←HP.out]at HST
      clear HLK'
      go_wp2_with (at_mapUpdate;refine Mw.wpList_store rfl _ _ _ _ rfl HST.out rfl rfl rfl ?_;rintro w3 ⟨hm3,hg3⟩;have f3:=HBC.out _ hg3)
      have HB3:=aA (Below.grown HB2.out hg3 HB2.out.size (fun k e=>by injection e with e;omega))
      have HM3:=aA hm3
      clear hm3 hg3
      go_roundw
      case rel=>exact⟨k+1,_,_,by omega,by go_num,rfl,HX,HB3.out,HM3⟩
      case measure=>simp[intOf];omega
     ·have h4:(zs != wy)=false:=by simpa using h3
      clear h3
      go_wp2_with fail
      refine(HAS.out _).mono ?_;rintro _ w2 ⟨rfl,hb2⟩
      have HB2:=aA ((HBA.out _).trans (hb2.mono (HBA.out _).size))
      have hbb:=(hb2.block wr.heap.size (by simp)).trans (heap_alloc_new wr _)
      have hz2:wr.heap.size<w2.heap.size:=(Array.getElem?_eq_some_iff.1 hbb).1
      have f1:=cell_of_row w2 _ 1 _ _ _ hbb
      have f2:=cell_of_row w2 _ 2 _ _ _ hbb
      have HM2:=aA (HM1.out.kept (zae hb2 none) (by simp))
      have HBC:=aA (fun(x:World) (h:w2.grownBy x (some w.heap.size))=>(cell_of_row x _ 1 _ _ _ ((h.block wr.heap.size hz2 (fun e=>by injection e with e;omega)).trans hbb)))
      clear hb2 hbb
      have HST:=aA (Mw.run_store (x:=lv) HM2.out zhv Try.underlying92 HIN.out.1 (.int .i64 wy) HSS.out)
      rw[←HP.out]at HST
      clear HLK'
      go_wp2_with (at_mapUpdate;refine Mw.wpList_store rfl _ _ _ _ rfl HST.out rfl rfl rfl ?_;rintro w3 ⟨hm3,hg3⟩;have f3:=HBC.out _ hg3)
      have HB3:=aA (Below.grown HB2.out hg3 HB2.out.size (fun k e=>by injection e with e;omega))
      have HM3:=aA hm3
      clear hm3 hg3
      go_roundw
      case rel=>exact⟨k+1,_,_,by omega,by go_num,rfl,HX,HB3.out,HM3⟩
      case measure=>simp[intOf];omega
    ·have HP:=aA (HPUT.out hp)
     have hp':=Int.not_lt.1 hp
     clear hp
     cases kn
     ·go_wp2_with fail
      refine(HAS.out _).mono ?_;rintro _ w2 ⟨rfl,hb2⟩
      have HB2:=aA ((HBA.out _).trans (hb2.mono (HBA.out _).size))
      have hbb:=(hb2.block wr.heap.size (by simp)).trans (heap_alloc_new wr _)
      have hz2:wr.heap.size<w2.heap.size:=(Array.getElem?_eq_some_iff.1 hbb).1
      have f1:=cell_of_row w2 _ 1 _ _ _ hbb
      have f2:=cell_of_row w2 _ 2 _ _ _ hbb
      have HM2:=aA (HM1.out.kept (zae hb2 none) (by simp))
      clear hb2 hbb
      rw[HP.out]at HX
      clear HLK'
      go_wp2
      go_roundw
      case rel=>exact⟨k+1,_,_,by omega,by go_num,rfl,HX,HB2.out,HM2⟩
      case measure=>simp[intOf];omega
     ·have h4:(zs != wy)=false:=by simpa using h3
      clear h3
      go_wp2_with fail
      refine(HAS.out _).mono ?_;rintro _ w2 ⟨rfl,hb2⟩
      have HB2:=aA ((HBA.out _).trans (hb2.mono (HBA.out _).size))
      have hbb:=(hb2.block wr.heap.size (by simp)).trans (heap_alloc_new wr _)
      have hz2:wr.heap.size<w2.heap.size:=(Array.getElem?_eq_some_iff.1 hbb).1
      have f1:=cell_of_row w2 _ 1 _ _ _ hbb
      have f2:=cell_of_row w2 _ 2 _ _ _ hbb
      have HM2:=aA (HM1.out.kept (zae hb2 none) (by simp))
      clear hb2 hbb
      rw[HP.out]at HX
      clear HLK'
      go_wp2
      go_roundw
      case rel=>exact⟨k+1,_,_,by omega,by go_num,rfl,HX,HB2.out,HM2⟩
      case measure=>simp[intOf];omega
  ·obtain rfl:k=ts.length:=by omega
   have hL:=Mw.run_len HM.out Try.underlying92 3
   have HX:=aA (HE.out.trans (zge (Nat.le_refl _) m g))
   rw[show(lvL m).length=m.length by simp[lvL]]at hL
   generalize m.length=q at *
   clear hb
   go_wp2_with (simp only[hL])
   go_ret
   exact⟨aF HX.out.symm,HB.out⟩
def isT (z:Int):Bool:=decide (0≤z)
def za9 (G:Gm.Gr) (z:Int):Bool:=!Gm.has G z
theorem zd3 (A:Option Addr) (c B:Nat) (l:List Int) (w:World) (hr:RdI w B A l) (hB:B≤w.heap.size) (hlen:(l.length:Int)≤9223372036854775807) :
  Calls Try.prog 28 #[.slice A l.length c,.func (Fn.func 63) #[] #[]] w fun e w'=>∃n:Int,e=.returned (.int .i64 n)∧decide (0≤n)=l.any isT∧Below w.heap.size w w':=by
 have HT:=aA hr
 have HB0:=aA (Below.refl w.heap.size w)
 clear hr
 go_enter Try.func28,Try.ntmps28
 go_wp2
 go_loopw [8] (fun vi wr=>∃(k:Nat),k≤l.length∧vi=.int .i64 k∧Hid (zds l (fun z=>!isT z) k)∧Below w.heap.size w wr) (fun vi _=>l.length-(intOf vi).toNat)
 case atStart=>exact⟨0,Nat.zero_le _,rfl,aA (zds.zero _ _),HB0.out⟩
 case round =>
  obtain⟨k,hk,rfl,HA,hb⟩:=hrel
  have HB:=aA hb
  by_cases hlt:k<l.length
  ·obtain⟨g,o,rfl,hgb,hc⟩:=HT.out (by omega)
   have k0:=(hb.cell (p:=⟨g,o+k,none⟩) (Nat.lt_of_lt_of_le hgb hB)).trans (hc k hlt)
   rw[L.gd_lt hlt]at k0
   have HC:=aA (fun(x:World) (_:Below w.heap.size w x)=>(zb9 l[k] x).mono (fun e w' h=>⟨h.1,by rw[h.2];exact Below.refl _ _⟩:∀e w',_→(e=.returned (.bool (isT l[k]))∧Below x.heap.size x w')))
   have HN:=aA (fun h=>HA.out.next hlt h)
   have HY:=aA (fun(h:isT l[k]=true)=>(List.any_eq_true.2 ⟨_,List.getElem_mem hlt,h⟩:l.any isT=true))
   clear hb hc
   obtain⟨z,qz⟩:∃z,z=l[k]:=⟨_,rfl⟩
   rw[←qz]at k0 HC HN HY
   clear qz
   cases q:isT z
   ·have HX:=aA (HN.out (by simp only[q];rfl))
    rw[q]at HC
    clear q HN HY
    go_wp2_with fail
    refine(HC.out _ HB.out).mono ?_;rintro _ w2 ⟨rfl,hb2⟩
    have HB2:=aA (HB.out.trans (hb2.mono HB.out.size))
    clear hb2
    go_wp2
    go_roundw
    case rel=>exact⟨k+1,by omega,by go_num,HX,HB2.out⟩
    case measure=>simp[intOf];omega
   ·have HX:=aA (HY.out q)
    rw[q]at HC
    clear q HN HY
    go_wp2_with fail
    refine(HC.out _ HB.out).mono ?_;rintro _ w2 ⟨rfl,hb2⟩
    have HB2:=aA (HB.out.trans (hb2.mono HB.out.size))
    clear hb2
    go_wp2
    go_ret
    exact⟨k,rfl,by rw[HX.out];simp,HB2.out⟩
  ·obtain rfl:k=l.length:=by omega
   have HX:Hid (l.any isT=false):=aA (by
    rw[List.any_eq_false]
    intro z hz
    obtain⟨i,hi,rfl⟩:=List.getElem_of_mem hz
    have:=HA.out i hi hi
    simpa using this)
   clear hb
   go_wp2
   go_ret
   exact⟨-1,rfl,by rw[HX.out];rfl,HB.out⟩
theorem zcv (A:Option Addr) (c B:Nat) (l:List Int) (w:World) (hr:RdI w B A l) (hB:B≤w.heap.size) (hlen:(l.length:Int)≤9223372036854775807) :
  Calls Try.prog 15 #[.slice A l.length c,.func (Fn.func 63) #[] #[]] w fun e w'=>e=.returned (.bool (l.any isT))∧Below w.heap.size w w':=by
 have HI:=aA (zd3 A c B l w hr hB hlen)
 clear hr hlen
 go_enter Try.func15,Try.ntmps15
 go_wp2_with fail
 refine HI.out.mono ?_;rintro _ w2 ⟨n,rfl,hn,hb⟩
 have HN:=aA hn
 have HB:=aA hb
 clear hn hb
 go_wp2
 go_ret
 exact⟨aF HN.out,HB.out⟩
theorem zd4 (v:Value) (G:Gm.Gr) (B gb:Nat) (z:Int) (a:Array Value) (hv:v=.agg a) (hz:Gm.In z) (w:World) (hg:aS w B v G) (hb:w.heap[gb]?=some (.cells a 26 (0,0))) :
  Calls Try.prog 62 #[.int .i64 z,.pointer (some ⟨gb,0,none⟩)] w fun e w'=>e=.returned (.bool (za9 G z))∧Below w.heap.size w w':=by
 have HH:=aA (zdk v G B z hz w hg)
 obtain⟨AT,cT,AN,cN,AR,cR,rfl,_⟩:=hg
 injection hv with hv
 subst hv
 have c0:=cell_of_row w gb 0 _ _ _ hb
 have c1:=cell_of_row w gb 1 _ _ _ hb
 have c2:=cell_of_row w gb 2 _ _ _ hb
 have c3:=cell_of_row w gb 3 _ _ _ hb
 clear hb hz
 go_enter Try.func62,Try.ntmps62
 go_wp2_with fail
 refine HH.out.mono ?_;rintro _ w2 ⟨rfl,hb⟩
 have HB:=aA hb
 clear hb
 go_wp2
 go_ret
 exact⟨rfl,HB.out⟩
theorem zeO (A:Option Addr) (c B:Nat) (l:List Int) (w:World) (G:Gm.Gr) (gb B2:Nat) (a:Array Value) (hin:∀z∈l,Gm.In z) (hg:∀x:World,Below w.heap.size w x→aS x B2 (.agg a) G) (hgb:∀x:World,Below w.heap.size w x→x.heap[gb]?=some (.cells a 26 (0,0))) (hr:RdI w B A l) (hB:B≤w.heap.size) (hlen:(l.length:Int)≤9223372036854775807) :
  Calls Try.prog 28 #[.slice A l.length c,.func (Fn.func 62) #[] #[.pointer (some ⟨gb,0,none⟩)]] w fun e w'=>∃n:Int,e=.returned (.int .i64 n)∧decide (0≤n)=l.any (za9 G)∧Below w.heap.size w w':=by
 have HT:=aA hr
 have HB0:=aA (Below.refl w.heap.size w)
 have HIN:=aA hin
 have HG:=aA hg
 have HGB:=aA hgb
 clear hin hg hgb
 clear hr
 go_enter Try.func28,Try.ntmps28
 go_wp2
 go_loopw [8] (fun vi wr=>∃(k:Nat),k≤l.length∧vi=.int .i64 k∧Hid (zds l (fun z=>!(za9 G) z) k)∧Below w.heap.size w wr) (fun vi _=>l.length-(intOf vi).toNat)
 case atStart=>exact⟨0,Nat.zero_le _,rfl,aA (zds.zero _ _),HB0.out⟩
 case round =>
  obtain⟨k,hk,rfl,HA,hb⟩:=hrel
  have HB:=aA hb
  by_cases hlt:k<l.length
  ·obtain⟨g,o,rfl,hgb,hc⟩:=HT.out (by omega)
   have k0:=(hb.cell (p:=⟨g,o+k,none⟩) (Nat.lt_of_lt_of_le hgb hB)).trans (hc k hlt)
   rw[L.gd_lt hlt]at k0
   have HC:=aA (fun(x:World) (h:Below w.heap.size w x)=>zd4 (.agg a) G B2 gb l[k] a rfl (HIN.out _ (List.getElem_mem hlt)) x (HG.out x h) (HGB.out x h))
   have HN:=aA (fun h=>HA.out.next hlt h)
   have HY:=aA (fun(h:(za9 G) l[k]=true)=>(List.any_eq_true.2 ⟨_,List.getElem_mem hlt,h⟩:l.any (za9 G)=true))
   clear hb hc
   obtain⟨z,qz⟩:∃z,z=l[k]:=⟨_,rfl⟩
   rw[←qz]at k0 HC HN HY
   clear qz
   cases q:(za9 G) z
   ·have HX:=aA (HN.out (by simp only[q];rfl))
    rw[q]at HC
    clear q HN HY
    go_wp2_with fail
    refine(HC.out _ HB.out).mono ?_;rintro _ w2 ⟨rfl,hb2⟩
    have HB2:=aA (HB.out.trans (hb2.mono HB.out.size))
    clear hb2
    go_wp2
    go_roundw
    case rel=>exact⟨k+1,by omega,by go_num,HX,HB2.out⟩
    case measure=>simp[intOf];omega
   ·have HX:=aA (HY.out q)
    rw[q]at HC
    clear q HN HY
    go_wp2_with fail
    refine(HC.out _ HB.out).mono ?_;rintro _ w2 ⟨rfl,hb2⟩
    have HB2:=aA (HB.out.trans (hb2.mono HB.out.size))
    clear hb2
    go_wp2
    go_ret
    exact⟨k,rfl,by rw[HX.out];simp,HB2.out⟩
  ·obtain rfl:k=l.length:=by omega
   have HX:Hid (l.any (za9 G)=false):=aA (by
    rw[List.any_eq_false]
    intro z hz
    obtain⟨i,hi,rfl⟩:=List.getElem_of_mem hz
    have:=HA.out i hi hi
    simpa using this)
   clear hb
   go_wp2
   go_ret
   exact⟨-1,rfl,by rw[HX.out];rfl,HB.out⟩
theorem zcY (A:Option Addr) (c B:Nat) (l:List Int) (w:World) (G:Gm.Gr) (gb B2:Nat) (a:Array Value) (hin:∀z∈l,Gm.In z) (hg:∀x:World,Below w.heap.size w x→aS x B2 (.agg a) G) (hgb:∀x:World,Below w.heap.size w x→x.heap[gb]?=some (.cells a 26 (0,0))) (hr:RdI w B A l) (hB:B≤w.heap.size) (hlen:(l.length:Int)≤9223372036854775807) :
  Calls Try.prog 15 #[.slice A l.length c,.func (Fn.func 62) #[] #[.pointer (some ⟨gb,0,none⟩)]] w fun e w'=>e=.returned (.bool (l.any (za9 G)))∧Below w.heap.size w w':=by
 have HI:=aA (zeO A c B l w G gb B2 a hin hg hgb hr hB hlen)
 clear hr hlen hin hg hgb
 go_enter Try.func15,Try.ntmps15
 go_wp2_with fail
 refine HI.out.mono ?_;rintro _ w2 ⟨n,rfl,hn,hb⟩
 have HN:=aA hn
 have HB:=aA hb
 clear hn hb
 go_wp2
 go_ret
 exact⟨aF HN.out,HB.out⟩
def ruB (G:Gm.Gr) (x:Gm.Rl):Bool:=decide (x.r.length≤6) && !x.r.any (za9 G)&&(if x.p = -1 then !x.r.any isT else isT x.p&&Gm.has G x.p)
theorem zck (v:Value) (G:Gm.Gr) (B:Nat) (x:Gm.Rl) (A:Option Addr) (c:Nat) (w:World) (hg:aS w B v G) (hr:RdI w B A x.r) (hx:∀z∈x.r,Gm.In z) (hp:Gm.In x.p) (hB:B≤w.heap.size) :
  Calls Try.prog 44 #[v,.agg #[.int .i64 x.l,.slice A x.r.length c,.int .i64 x.p]] w fun e w'=>e=.returned (.bool (ruB G x))∧Below w.heap.size w w':=by
 have HG:=aA hg
 obtain⟨AT,cT,AN,cN,AR,cR,rfl,_⟩:=hg
 have HB0:=aA ((One.start w #[.slice AT G.ts.length cT,.slice AN G.ns.length cN,.slice AR G.rs.length cR,.int .i64 G.st]).alloc (.cells #[.int .i64 x.l,.slice A x.r.length c,.int .i64 x.p] 42))
 have HK0:Hid (((w.alloc (.cells #[.slice AT G.ts.length cT,.slice AN G.ns.length cN,.slice AR G.rs.length cR,.int .i64 G.st] 26)).alloc (.cells #[.int .i64 x.l,.slice A x.r.length c,.int .i64 x.p] 42)).heap[w.heap.size+1]?=some (.cells #[.int .i64 x.l,.slice A x.r.length c,.int .i64 x.p] 42 (0,0))):=aA (by
  have:=heap_alloc_new (w.alloc (.cells #[.slice AT G.ts.length cT,.slice AN G.ns.length cN,.slice AR G.rs.length cR,.int .i64 G.st] 26)) (.cells #[.int .i64 x.l,.slice A x.r.length c,.int .i64 x.p] 42)
  simpa using this)
 by_cases h6:6<x.r.length
 ·have HX:Hid (ruB G x=false):=aA (by unfold ruB;rw[decide_eq_false (show ¬x.r.length≤6 by omega)];rfl)
  rw[HX.out]
  clear hr hx hp
  go_enter Try.func44,Try.ntmps44
  go_wp2
  go_ret
  exact⟨rfl,HB0.out.below⟩
 have HOB:=aA (fun(y:World) (h:One w #[.slice AT G.ts.length cT,.slice AN G.ns.length cN,.slice AR G.rs.length cR,.int .i64 G.st] y)=>(Below.block h w.heap.size (by omega)).trans (heap_alloc_new w _))
 have HCF:=aA (fun(y:World) (h:One w #[.slice AT G.ts.length cT,.slice AN G.ns.length cN,.slice AR G.rs.length cR,.int .i64 G.st] y)=>zcY A c B x.r y G w.heap.size B _ hx (fun z hz=>HG.out.below (h.on hz).below hB) (fun z hz=>HOB.out _ (h.on hz)) (hr.keep fun g o hg=>h.below.cell (p:=⟨g,o,none⟩) (Nat.lt_of_lt_of_le hg hB)) (Nat.le_trans hB h.below.size) (by omega))
 have HCT:=aA (fun(y:World) (h:One w #[.slice AT G.ts.length cT,.slice AN G.ns.length cN,.slice AR G.rs.length cR,.int .i64 G.st] y)=>zcv A c B x.r y (hr.keep fun g o hg=>h.below.cell (p:=⟨g,o,none⟩) (Nat.lt_of_lt_of_le hg hB)) (Nat.le_trans hB h.below.size) (by omega))
 have HIT:=aA (fun y=>zb9 x.p y)
 have HHS:=aA (fun(y:World) (h:One w #[.slice AT G.ts.length cT,.slice AN G.ns.length cN,.slice AR G.rs.length cR,.int .i64 G.st] y)=>zdk _ G B x.p hp y (HG.out.below h.below hB))
 have HRU:Hid (ruB G x=(!x.r.any (za9 G)&&(if x.p = -1 then !x.r.any isT else isT x.p&&Gm.has G x.p))):=aA (by unfold ruB;rw[decide_eq_true (show x.r.length≤6 by omega)];rfl)
 clear hr hx hp HG
 cases q1:x.r.any (za9 G)
 case true =>
  have HX:Hid (ruB G x=false):=aA (by rw[HRU.out,q1];rfl)
  rw[q1]at HCF
  rw[HX.out]
  clear q1 HRU
  go_enter Try.func44,Try.ntmps44
  go_wp2_with fail
  refine(HCF.out _ HB0.out).mono ?_;rintro _ w2 ⟨rfl,hb⟩
  have HB2:=aA (HB0.out.on hb)
  clear hb
  go_wp2
  go_ret
  exact⟨rfl,HB2.out.below⟩
 rw[q1]at HCF
 have HR2:Hid (ruB G x=(if x.p = -1 then !x.r.any isT else isT x.p&&Gm.has G x.p)):=aA (by rw[HRU.out,q1];rfl)
 clear q1 HRU
 by_cases h1:x.p = -1
 ·have HX:=aA (HR2.out.trans (if_pos h1))
  have e1:(x.p == -1)=true:=beq_iff_eq.2 h1
  rw[HX.out]
  generalize x.r.any isT=b at *
  clear h1 HIT HHS HR2 HX
  go_enter Try.func44,Try.ntmps44
  go_wp2_with fail
  refine(HCF.out _ HB0.out).mono ?_;rintro _ w2 ⟨rfl,hb⟩
  have HB2:=aA (HB0.out.on hb)
  have hbb:=(hb.block (w.heap.size+1) (by simp)).trans HK0.out
  have d1:=cell_of_row w2 _ 1 _ _ _ hbb
  have d2:=cell_of_row w2 _ 2 _ _ _ hbb
  have hz:w.heap.size+1<w2.heap.size:=(Array.getElem?_eq_some_iff.1 hbb).1
  clear hb hbb
  go_wp2_with fail
  refine(HCT.out _ HB2.out).mono ?_;rintro _ w3 ⟨rfl,hb⟩
  have HB3:=aA (HB2.out.on hb)
  clear hb
  go_wp2
  go_ret
  exact⟨rfl,HB3.out.below⟩
 ·have HX:=aA (HR2.out.trans (if_neg h1))
  have e1:(x.p == -1)=false:=beq_eq_false_iff_ne.2 h1
  rw[HX.out]
  unfold isT
  clear h1 HCT HR2 HX
  cases q2:decide (0≤x.p)
  ·rw[q2]at HIT
   clear q2 HHS
   go_enter Try.func44,Try.ntmps44
   go_wp2_with fail
   refine(HCF.out _ HB0.out).mono ?_;rintro _ w2 ⟨rfl,hb⟩
   have HB2:=aA (HB0.out.on hb)
   have hbb:=(hb.block (w.heap.size+1) (by simp)).trans HK0.out
   have d1:=cell_of_row w2 _ 1 _ _ _ hbb
   have d2:=cell_of_row w2 _ 2 _ _ _ hbb
   have hz:w.heap.size+1<w2.heap.size:=(Array.getElem?_eq_some_iff.1 hbb).1
   clear hb hbb
   go_wp2_with fail
   refine(HIT.out _).mono ?_;rintro _ _ ⟨rfl,rfl⟩
   go_wp2
   go_ret
   exact⟨rfl,HB2.out.below⟩
  ·rw[q2]at HIT
   clear q2
   generalize Gm.has G x.p=b at *
   go_enter Try.func44,Try.ntmps44
   go_wp2_with fail
   refine(HCF.out _ HB0.out).mono ?_;rintro _ w2 ⟨rfl,hb⟩
   have HB2:=aA (HB0.out.on hb)
   have hbb:=(hb.block (w.heap.size+1) (by simp)).trans HK0.out
   have d1:=cell_of_row w2 _ 1 _ _ _ hbb
   have d2:=cell_of_row w2 _ 2 _ _ _ hbb
   have hz:w.heap.size+1<w2.heap.size:=(Array.getElem?_eq_some_iff.1 hbb).1
   have q0:=HB2.out.c 0 _ rfl
   have q1:=HB2.out.c 1 _ rfl
   have q2:=HB2.out.c 2 _ rfl
   have q3:=HB2.out.c 3 _ rfl
   clear hb hbb
   go_wp2_with fail
   refine(HIT.out _).mono ?_;rintro _ w5 ⟨rfl,hw5⟩
   subst hw5
   go_wp2_with fail
   refine(HHS.out _ HB2.out).mono ?_;rintro _ w3 ⟨rfl,hb⟩
   have HB3:=aA (HB2.out.on hb)
   clear hb
   go_wp2
   go_ret
   exact⟨aF (by simp),HB3.out.below⟩
def rrF (G:Gm.Gr):List Gm.Rl→Int→Bool
 | [],n=>n==G.ns.length
 | x::r,n=>if x.l<0∨n<x.l∨ruB G x=false then false else rrF G r (max n (x.l+1))
theorem zfn {G:Gm.Gr} {rs:List Gm.Rl} {k:Nat} (h:k<rs.length) (n:Int):rrF G (rs.drop k) n=if rs[k].l<0∨n<rs[k].l∨ruB G rs[k]=false then false else rrF G (rs.drop (k+1)) (max n (rs[k].l+1)):=by
 rw[List.drop_eq_getElem_cons h,rrF]
theorem zgc {G:Gm.Gr} {rs:List Gm.Rl} {k:Nat} (h:rs.length≤k) (n:Int):rrF G (rs.drop k) n=(n==(G.ns.length:Int)):=by
 rw[List.drop_eq_nil_of_le h,rrF]
def rrB (G:Gm.Gr):Bool:=decide (G.rs.length≤40)&&rrF G G.rs 0
theorem zbQ (v:Value) (G:Gm.Gr) (B:Nat) (w:World) (hg:aS w B v G) (hf:Gm.Fit G) (hB:B≤w.heap.size) :
  Calls Try.prog 27 #[v] w fun e w'=>e=.returned (.bool (rrB G))∧Below w.heap.size w w':=by
 have HG:=aA hg
 obtain⟨AT,cT,AN,cN,AR,cR,rfl,⟨hlT,hmT⟩,⟨hlN,hmN⟩,⟨hlR,hmR⟩,_,_,ht⟩:=hg
 have HT:=aA ht
 have HF:=aA hf
 have HS0:=aA (One.start w #[.slice AT G.ts.length cT,.slice AN G.ns.length cN,.slice AR G.rs.length cR,.int .i64 G.st])
 have hlenN:(G.ns.length:Int)≤9223372036854775807:=by omega
 clear ht hf
 by_cases h40:40<G.rs.length
 ·have HX:Hid (rrB G=false):=aA (by unfold rrB;rw[decide_eq_false (show ¬G.rs.length≤40 by omega)];rfl)
  rw[HX.out]
  go_enter Try.func27,Try.ntmps27
  go_wp2
  go_ret
  exact⟨rfl,HS0.out.below⟩
 have HRR:Hid (rrB G=rrF G (G.rs.drop 0) 0):=aA (by unfold rrB;rw[decide_eq_true (show G.rs.length≤40 by omega)];rfl)
 go_enter Try.func27,Try.ntmps27
 go_wp2
 go_loopw [3,13] (fun vt vi wr=>∃(k:Nat) (z:Int),k≤G.rs.length∧vi=.int .i64 k∧vt=.int .i64 z∧(0≤z∧z≤100+k)∧Hid (rrB G=rrF G (G.rs.drop k) z)∧One w #[.slice AT G.ts.length cT,.slice AN G.ns.length cN,.slice AR G.rs.length cR,.int .i64 G.st] wr) (fun _ vi _=>G.rs.length-(intOf vi).toNat)
 case atStart=>exact⟨0,0,Nat.zero_le _,rfl,rfl,by omega,HRR,HS0.out⟩
 case round =>
  obtain⟨k,z,hk,rfl,rfl,hzz,HE,hb⟩:=hrel
  have HB:=aA hb
  have hz:w.heap.size<wr.heap.size:=hb.size
  have hbw:=hb.below
  have q0:=hb.c 0 _ rfl
  have q1:=hb.c 1 _ rfl
  have q2:=hb.c 2 _ rfl
  have q3:=hb.c 3 _ rfl
  clear hb
  by_cases hlt:k<G.rs.length
  ·obtain⟨g,o,rfl,hgb,hc⟩:=HT.out (by omega)
   obtain⟨k0,⟨A',c',k1,_,_,hri⟩,k2⟩:=hc k hlt
   have k0:=(hbw.cell (p:=⟨g,o+k*3,none⟩) (Nat.lt_of_lt_of_le hgb hB)).trans k0
   have k1:=(hbw.cell (p:=⟨g,o+k*3+1,none⟩) (Nat.lt_of_lt_of_le hgb hB)).trans k1
   have k2:=(hbw.cell (p:=⟨g,o+k*3+2,none⟩) (Nat.lt_of_lt_of_le hgb hB)).trans k2
   have hgs:g<wr.heap.size:=by omega
   have hft:=HF.out.r _ (List.getElem_mem hlt)
   have HRU:=aA (fun(y:World) (h:One w #[.slice AT G.ts.length cT,.slice AN G.ns.length cN,.slice (some ⟨g,o,none⟩) G.rs.length cR,.int .i64 G.st] y)=>zck _ G B G.rs[k] A' c' y (HG.out.below h.below hB) (hri.keep fun g o hg=>h.below.cell (p:=⟨g,o,none⟩) (Nat.lt_of_lt_of_le hg hB)) hft.2.2 hft.2.1 (Nat.le_trans hB h.below.size))
   have HN:=aA (HE.out.trans (zfn hlt z))
   have hil:=hft.1
   unfold Gm.In at hil
   clear hc hbw hft hri
   generalize G.rs[k]=x at *
   by_cases c1:x.l<0
   ·have HX:Hid (rrB G=false):=aA (HN.out.trans (if_pos (.inl c1)))
    go_wp2
    go_ret
    exact⟨aF HX.out.symm,(HB.out.alloc _).below⟩
   have c1':=Int.not_lt.1 c1
   by_cases c2:z<x.l
   ·have HX:Hid (rrB G=false):=aA (HN.out.trans (if_pos (.inr (.inl c2))))
    go_wp2
    go_ret
    exact⟨aF HX.out.symm,(HB.out.alloc _).below⟩
   have c2':=Int.not_lt.1 c2
   cases c3:ruB G x
   ·have HX:Hid (rrB G=false):=aA (HN.out.trans (if_pos (.inr (.inr c3))))
    rw[c3]at HRU
    clear c3 c1 c2
    go_wp2_with fail
    refine(HRU.out _ (HB.out.alloc _)).mono ?_;rintro _ w4 ⟨rfl,hb4⟩
    have HB4:=aA ((HB.out.alloc _).on hb4)
    clear hb4
    go_wp2
    go_ret
    exact⟨aF HX.out.symm,HB4.out.below⟩
   ·have HX:=aA (HN.out.trans (if_neg (by rw[c3];simp;omega)))
    rw[c3]at HRU
    clear c3 c1 c2
    go_wp2_with fail
    refine(HRU.out _ (HB.out.alloc _)).mono ?_;rintro _ w4 ⟨rfl,hb4⟩
    have HB4:=aA ((HB.out.alloc _).on hb4)
    have hbb:=(hb4.block wr.heap.size (by simp)).trans (heap_alloc_new wr _)
    have hz4:wr.heap.size<w4.heap.size:=(Array.getElem?_eq_some_iff.1 hbb).1
    have f0:=cell_of_row w4 _ 0 _ _ _ hbb
    clear hb4 hbb
    go_wp2
    go_roundw
    case rel=>exact⟨k+1,max z (x.l+1),by omega,by go_num,rfl,by omega,HX,HB4.out⟩
    case measure=>simp[intOf];omega
  ·obtain rfl:k=G.rs.length:=by omega
   have HX:=aA (HE.out.trans (zgc (Nat.le_refl _) z))
   clear hbw
   go_wp2
   go_ret
   exact⟨aF HX.out.symm,HB.out.below⟩
def zbs (G:Gm.Gr):Bool:=rnB G&&rlF G.ts [] 0&&rrB G&&decide (0≤G.st)&&decide (G.st<G.ns.length)
theorem zd5 (v:Value) (G:Gm.Gr) (B:Nat) (w:World) (hg:aS w B v G) (hf:Gm.Fit G) (hB:B≤w.heap.size) :
  Calls Try.prog 14 #[v] w fun e w'=>e=.returned (.bool (zbs G))∧Below w.heap.size w w':=by
 have HG:=aA hg
 have HF:=aA hf
 obtain⟨AT,cT,AN,cN,AR,cR,rfl,⟨hlT,hmT⟩,⟨hlN,hmN⟩,⟨hlR,hmR⟩,htm,_,_⟩:=hg
 have HS0:=aA (One.start w #[.slice AT G.ts.length cT,.slice AN G.ns.length cN,.slice AR G.rs.length cR,.int .i64 G.st])
 have H1:=aA (fun(x:World) (h:One w #[.slice AT G.ts.length cT,.slice AN G.ns.length cN,.slice AR G.rs.length cR,.int .i64 G.st] x)=>zbR _ G B x (HG.out.below h.below hB) HF.out (Nat.le_trans hB h.below.size))
 have H2:=aA (fun(x:World) (h:One w #[.slice AT G.ts.length cT,.slice AN G.ns.length cN,.slice AR G.rs.length cR,.int .i64 G.st] x)=>zbz AT cT B G.ts x (htm.keep fun g o hg=>h.below.cell (p:=⟨g,o,none⟩) (Nat.lt_of_lt_of_le hg hB)) HF.out.t (Nat.le_trans hB h.below.size) (by omega))
 have H3:=aA (fun(x:World) (h:One w #[.slice AT G.ts.length cT,.slice AN G.ns.length cN,.slice AR G.rs.length cR,.int .i64 G.st] x)=>zbQ _ G B x (HG.out.below h.below hB) HF.out (Nat.le_trans hB h.below.size))
 have hlenN:(G.ns.length:Int)≤9223372036854775807:=by omega
 unfold zbs
 clear hf htm HG HF hlT hmT hlN hmN hlR hmR hB
 cases p1:rnB G
 ·rw[p1]at H1
  clear p1 H2 H3
  go_enter Try.func14,Try.ntmps14
  go_wp2_with fail
  refine(H1.out _ HS0.out).mono ?_;rintro _ w2 ⟨rfl,hb⟩
  have HB2:=aA (HS0.out.on hb)
  clear hb
  go_wp2
  go_ret
  exact⟨rfl,HB2.out.below⟩
 rw[p1]at H1
 clear p1
 cases p2:rlF G.ts [] 0
 ·rw[p2]at H2
  clear p2 H3
  go_enter Try.func14,Try.ntmps14
  go_wp2_with fail
  refine(H1.out _ HS0.out).mono ?_;rintro _ w2 ⟨rfl,hb⟩
  have HB2:=aA (HS0.out.on hb)
  have q0:=HB2.out.c 0 _ rfl
  have z2:w.heap.size<w2.heap.size:=HB2.out.size
  clear hb
  go_wp2_with fail
  refine(H2.out _ HB2.out).mono ?_;rintro _ w3 ⟨rfl,hb⟩
  have HB3:=aA (HB2.out.on hb)
  clear hb
  go_wp2
  go_ret
  exact⟨rfl,HB3.out.below⟩
 rw[p2]at H2
 clear p2
 cases p3:rrB G
 ·rw[p3]at H3
  clear p3
  go_enter Try.func14,Try.ntmps14
  go_wp2_with fail
  refine(H1.out _ HS0.out).mono ?_;rintro _ w2 ⟨rfl,hb⟩
  have HB2:=aA (HS0.out.on hb)
  have q0:=HB2.out.c 0 _ rfl
  have z2:w.heap.size<w2.heap.size:=HB2.out.size
  clear hb
  go_wp2_with fail
  refine(H2.out _ HB2.out).mono ?_;rintro _ w3 ⟨rfl,hb⟩
  have HB3:=aA (HB2.out.on hb)
  have r0:=HB3.out.c 0 _ rfl
  have r1:=HB3.out.c 1 _ rfl
  have r2:=HB3.out.c 2 _ rfl
  have r3:=HB3.out.c 3 _ rfl
  have z3:w.heap.size<w3.heap.size:=HB3.out.size
  clear hb
  go_wp2_with fail
  refine(H3.out _ HB3.out).mono ?_;rintro _ w4 ⟨rfl,hb⟩
  have HB4:=aA (HB3.out.on hb)
  clear hb
  go_wp2
  go_ret
  exact⟨rfl,HB4.out.below⟩
 rw[p3]at H3
 clear p3
 by_cases h4:0≤G.st
 ·rw[decide_eq_true h4]
  go_enter Try.func14,Try.ntmps14
  go_wp2_with fail
  refine(H1.out _ HS0.out).mono ?_;rintro _ w2 ⟨rfl,hb⟩
  have HB2:=aA (HS0.out.on hb)
  have q0:=HB2.out.c 0 _ rfl
  have z2:w.heap.size<w2.heap.size:=HB2.out.size
  clear hb
  go_wp2_with fail
  refine(H2.out _ HB2.out).mono ?_;rintro _ w3 ⟨rfl,hb⟩
  have HB3:=aA (HB2.out.on hb)
  have r0:=HB3.out.c 0 _ rfl
  have r1:=HB3.out.c 1 _ rfl
  have r2:=HB3.out.c 2 _ rfl
  have r3:=HB3.out.c 3 _ rfl
  have z3:w.heap.size<w3.heap.size:=HB3.out.size
  clear hb
  go_wp2_with fail
  refine(H3.out _ HB3.out).mono ?_;rintro _ w4 ⟨rfl,hb⟩
  have HB4:=aA (HB3.out.on hb)
  have s1:=HB4.out.c 1 _ rfl
  have s3:=HB4.out.c 3 _ rfl
  have z4:w.heap.size<w4.heap.size:=HB4.out.size
  clear hb
  go_wp2
  go_ret
  exact⟨aF (by simp),HB4.out.below⟩
 ·rw[decide_eq_false h4]
  have h4':=Int.not_le.1 h4
  clear h4
  go_enter Try.func14,Try.ntmps14
  go_wp2_with fail
  refine(H1.out _ HS0.out).mono ?_;rintro _ w2 ⟨rfl,hb⟩
  have HB2:=aA (HS0.out.on hb)
  have q0:=HB2.out.c 0 _ rfl
  have z2:w.heap.size<w2.heap.size:=HB2.out.size
  clear hb
  go_wp2_with fail
  refine(H2.out _ HB2.out).mono ?_;rintro _ w3 ⟨rfl,hb⟩
  have HB3:=aA (HB2.out.on hb)
  have r0:=HB3.out.c 0 _ rfl
  have r1:=HB3.out.c 1 _ rfl
  have r2:=HB3.out.c 2 _ rfl
  have r3:=HB3.out.c 3 _ rfl
  have z3:w.heap.size<w3.heap.size:=HB3.out.size
  clear hb
  go_wp2_with fail
  refine(H3.out _ HB3.out).mono ?_;rintro _ w4 ⟨rfl,hb⟩
  have HB4:=aA (HB3.out.on hb)
  have s1:=HB4.out.c 1 _ rfl
  have s3:=HB4.out.c 3 _ rfl
  have z4:w.heap.size<w4.heap.size:=HB4.out.size
  clear hb
  go_wp2
  go_ret
  exact⟨rfl,HB4.out.below⟩
namespace Pl
def stp (p:Int×Int) (z:Int):Int×Int:=if z=10 then(p.1+1,1) else(p.1,p.2+1)
def pos (l:List Int):Int×Int:=l.foldl stp (1,1)
theorem zfv (l:List Int) (z:Int):pos (l++[z])=stp (pos l) z:=by unfold pos;rw[List.foldl_append];rfl
theorem pos_next (l:List Int) (k:Nat) (h:k<l.length):pos (l.take (k+1))=stp (pos (l.take k)) (l.getD k 0):=by rw[L.take_snoc l k h,zfv]
theorem pos_bd (l:List Int) (k:Nat) (h:k≤l.length):1≤(pos (l.take k)).1∧(pos (l.take k)).1≤1+k∧1≤(pos (l.take k)).2∧(pos (l.take k)).2≤1+k:=by
 induction k with
 | zero=>simp[pos]
 | succ k ih =>
  have:=ih (by omega)
  rw[pos_next l k (by omega)]
  unfold stp
  split <;> simp only <;> omega
end Pl
theorem zb1 (A:Option Addr) (c B:Nat) (l:List Int) (i:Nat) (w:World) (hr:RdB w B A l) (hn:l.length≤2000) (hi:i≤l.length) :
  Calls Try.prog 48 #[.slice A l.length c,.int .i64 i] w fun e w'=>e=.returned (.complex .f64 (Fl.fl (Pl.pos (l.take i)).1) (Fl.fl (Pl.pos (l.take i)).2))∧w=w':=by
 have hi':¬(l.length:Int)<i:=by omega
 go_enter Try.func48,Try.ntmps48
 go_wp2
 go_loop [7,5,6] (fun vi vl vc=>∃(k:Nat),k≤i∧vi=.int .i64 k∧vl=.int .i64 (Pl.pos (l.take k)).1∧vc=.int .i64 (Pl.pos (l.take k)).2) (fun vi _ _=>i-(intOf vi).toNat)
 case atStart=>exact⟨0,by omega,rfl,rfl,rfl⟩
 case round =>
  obtain⟨k,hk,rfl,rfl,rfl⟩:=hrel
  have hb:=Pl.pos_bd l k (by omega)
  by_cases hlt:k<i
  ·obtain⟨g,o,rfl,_,hcl⟩:=hr (by omega)
   have hcell:=hcl k (by omega)
   have hnx:=aA (Pl.pos_next l k (by omega))
   have hkl:k<l.length:=by omega
   generalize l.getD k 0=z at *
   generalize Pl.pos (l.take k)=p at *
   obtain⟨x,y⟩:=p
   simp only at hb
   obtain⟨b1,b2,b3,b4⟩:=hb
   clear hcl
   by_cases h10:z=10
   ·subst h10
    go_wp2
    go_round
    case rel=>exact⟨k+1,by omega,by go_num,by rw[hnx.out];rfl,by rw[hnx.out];rfl⟩
    case measure=>simp[intOf];omega
   ·have h11:(z==10)=false:=by simpa using h10
    have HN:=aA h10
    clear h10
    go_wp2
    go_round
    case rel=>exact⟨k+1,by omega,by go_num,by rw[hnx.out];unfold Pl.stp;rw[if_neg HN.out],by rw[hnx.out];unfold Pl.stp;rw[if_neg HN.out]⟩
    case measure=>simp[intOf];omega
  ·obtain rfl:k=i:=by omega
   clear hr
   have HS:=aA (fun w=>zgd (Pl.pos (l.take k)).1 (Pl.pos (l.take k)).2 w (by unfold okN;omega) (by unfold okN;omega))
   clear hb
   go_wp2_with fail
   refine(HS.out _).mono ?_;rintro _ w' ⟨rfl,rfl⟩
   go_wp2
   go_ret
   exact⟨rfl,rfl⟩
structure Tok where
 k:Int
 t:List Int
 o:Nat
inductive Out where
 | ok:List Tok→Out
 | bad:Nat→Int→Out
def more (acc:List Tok) (k:Nat) (x:T.P3) (l:List Int):List Tok:=if x.1=0 then acc else acc++[⟨x.1,aP x.1 (l.take x.2.1),k⟩]
def zba (m:Nat) (x:T.P3):Nat:=if x.1=9 then m+1 else m
def zeb:Nat→List Int→Nat→Nat→List Tok→Out
 | 0,_,_,_,acc=>.ok acc
 | f+1,l,k,m,acc=>if l.length=0∨m=2 then .ok acc else if(T.piece l).2.2≠0 then .bad k (T.piece l).2.2 else zeb f (l.drop (T.piece l).2.1) (k+(T.piece l).2.1) (zba m (T.piece l)) (more acc k (T.piece l) l)
theorem zdx (f:Nat) (l:List Int) (k m:Nat) (acc:List Tok) (h:l.length=0∨m=2):zeb f l k m acc=.ok acc:=by
 cases f with
 | zero=>rfl
 | succ f=>unfold zeb;rw[if_pos h]
theorem zdy (f:Nat) (l:List Int) (k m:Nat) (acc:List Tok) (h:¬(l.length=0∨m=2)) (hb:(T.piece l).2.2≠0):zeb (f+1) l k m acc=.bad k (T.piece l).2.2:=by
 rw[zeb,if_neg h,if_pos hb]
theorem zet (f:Nat) (l:List Int) (k m:Nat) (acc:List Tok) (h:¬(l.length=0∨m=2)) (hb:(T.piece l).2.2=0):zeb (f+1) l k m acc=zeb f (l.drop (T.piece l).2.1) (k+(T.piece l).2.1) (zba m (T.piece l)) (more acc k (T.piece l) l):=by
 rw[zeb,if_neg h,if_neg (by simpa using hb)]
def zf7 (l:List Int):Out:=zeb (l.length+1) l 0 0 []
def zaz (L:List Int) (x:Tok):List Value:=[.int .i64 x.k,.string (K.str x.t),.complex .f64 (Fl.fl (Pl.pos (L.take x.o)).1) (Fl.fl (Pl.pos (L.take x.o)).2)]
theorem zel (L:List Int) (xs:List Tok) (i j:Nat) (hi:i<xs.length) (hj:j<3):(xs.flatMap (zaz L))[i*3+j]?=(zaz L xs[i])[j]?:=by
 induction xs generalizing i with
 | nil=>simp at hi
 | cons x r ih =>
  rw[List.flatMap_cons]
  have hl:(zaz L x).length=3:=rfl
  cases i with
  | zero=>rw[List.getElem?_append_left (by omega)];simp
  | succ i =>
   rw[List.getElem?_append_right (by omega),hl,show(i+1)*3+j-3=i*3+j by omega]
   simpa using ih i (by simpa using hi)
def aZ (L:List Int) (w:World) (base:Nat) (v:Value) (xs:List Tok):Prop:=w.ownsRow base 104 3 v xs.length (xs.flatMap (zaz L))
theorem aZ.nil (L:List Int) (w:World) (base:Nat):aZ L w base (.slice none 0 0) []:=World.ownsRow_nil w base _ _
theorem aZ.alloc {L:List Int} {w:World} {base:Nat} {v:Value} {xs:List Tok} (h:aZ L w base v xs) (o:Obj):aZ L (w.alloc o) base v xs:=World.ownsRow.alloc h o
theorem aZ.drewN {L:List Int} {w:World} {base:Nat} {v:Value} {xs:List Tok} (h:aZ L w base v xs) (n:Nat):aZ L (w.drewN n) base v xs:=h
theorem aZ.below {L:List Int} {w w':World} {base B:Nat} {v:Value} {xs:List Tok} (h:aZ L w base v xs) (hb:Below B w w') (hB:w.heap.size≤B):aZ L w' base v xs:=by
 refine⟨h.1,?_⟩
 rcases h.2 with h0|⟨g,cap,cur,e,hb1,hg,hr⟩
 ·exact .inl h0
 ·exact .inr ⟨g,cap,cur,e,hb1,(hb.block g (Nat.lt_of_lt_of_le (Array.getElem?_eq_some_iff.1 hg).1 hB)).trans hg,hr⟩
theorem aZ.form {L:List Int} {w:World} {base:Nat} {v:Value} {xs:List Tok} (h:aZ L w base v xs):∃A c,v=.slice A xs.length c∧xs.length≤c∧c≤maxLen:=by
 rcases h.2 with⟨rfl,h0⟩|⟨g,cap,cur,rfl,hb,hg,hn,hm,hs,ht⟩
 ·exact⟨none,0,by rw[h0],by omega,by unfold maxLen;omega⟩
 ·exact⟨_,cap,rfl,hn,hm⟩
theorem aZ.addr {L:List Int} {w:World} {base:Nat} {v:Value} {xs:List Tok} (h:aZ L w base v xs) (h0:xs.length≠0):∃g c,v=.slice (some ⟨g,0,none⟩) xs.length c∧xs.length≤c∧c≤maxLen∧base≤g∧g<w.heap.size ∧
  ∀i j u,i<xs.length→j<3→(xs[i]?.map (zaz L)).bind (·[j]?)=some u→w.cell? ⟨g,i*3+j,none⟩=some u:=by
 rcases h.2 with⟨_,h1⟩|⟨g,cap,cur,rfl,hb,hg,hn,hm,hs,ht⟩
 ·exact absurd h1 h0
 ·refine⟨g,cap,rfl,hn,hm,hb,(Array.getElem?_eq_some_iff.1 hg).1,fun i j u hi hj hu=>?_⟩
  have hx:xs[i]?=some xs[i]:=List.getElem?_eq_getElem hi
  rw[hx]at hu
  have hc:=World.ownsRow.cells h (g:=g) rfl (i*3+j) u (by rw[zel L xs i j hi hj];exact hu)
  rw[Go.WideShapes.add_plain,Nat.zero_add]at hc
  exact hc
theorem zbj {L:List Int} {B:Nat} {a w w':World} {v:Value} {xs:List Tok} (h:Below B a w) (ho:aZ L w B v xs) (hg:w.grownBy w' v.ownBlock) (hs:B≤w.heap.size):Below B a w' :=
 h.grown hg hs (fun k e=>(World.ownsRow.lt ho k e).1)
theorem ze6 {w:World} {ops:Array Oper} {rest:List Oper} {o:Oper} {a:Act} {Q:Exit→Act→World→Prop}
  (hgd:o.guard=none) (s x:Operand) (t:TypeId) (ho:o.op=.call {callee:=.builtin .append,args:=#[s,x],argTypes:=#[t,t]}) (ht:Try.prog.underlying t=some (.slice 104))
  (L:List Int) (base:Nat) (v:Value) (xs:List Tok) (hs:a.eval s=v) (hown:aZ L w base v xs) (g c:Nat) (y:Tok) (hx:a.eval x=.slice (some ⟨g,0,none⟩) 1 c) (hz:∀j u,(zaz L y)[j]?=some u→w.cell? ⟨g,j,none⟩=some u)
  (hlen:xs.length≤1000000) (hbase:base≤w.heap.size)
  (hK:∀v' w',aZ L w' base v' (xs++[y])→w.grownBy w' v.ownBlock→wpList Try.prog ops Q rest (a.put o.dst v') w') :
  wpList Try.prog ops Q (o::rest) a w:=by
 obtain⟨i,hi,hz0,hz1,hz2⟩:=info_parts zhw
 refine wpList_append_own w hgd s x t ho base 104 i _ 3 40 ht hi hz0 hz1 hz2 rfl (by decide) v xs.length (xs.flatMap (zaz L)) hs hown ⟨g,0,none⟩ 1 c (zaz L y) hx rfl ?_ ?_ (by unfold maxLen;omega) (by omega) hbase fun v' w' h1 h2 _=>hK v' w' ?_ h2
 ·intro j u hj
  rw[Go.WideShapes.add_plain,Nat.zero_add]
  exact hz j u hj
 ·intro u hu;simp[zaz]at hu;rcases hu with rfl|rfl|rfl <;> rfl
 ·unfold aZ
  rw[List.length_append,List.flatMap_append,List.flatMap_singleton];exact h1
end Go.Proofs.Ytcgclkndkahgaaa
namespace Go.Proofs.Ytcgclkndkahgaaa
set_option maxRecDepth 100000
set_option maxHeartbeats 40000000
namespace Y
inductive Res (α:Type) where
 | ok:α→List Tok→Res α
 | bad:Option Tok→Res α
def Res.bind {α β:Type} (r:Res α) (f:α→List Tok→Res β):Res β:=match r with | .ok a l=>f a l | .bad p=>.bad p
theorem bind_ok {α β:Type} (a:α) (l:List Tok) (f:α→List Tok→Res β):(Res.ok a l).bind f=f a l:=rfl
structure Dcl where
 k:Int
 ns:List Tok
structure Prd where
 l:Tok
 r:List Tok
 p:Option Tok
def is (ks:List Int):List Tok→Bool
 | []=>false
 | t::_=>ks.contains t.k
def take (ks:List Int):List Tok→Res Tok
 | []=>.bad none
 | t::r=>if ks.contains t.k then .ok t r else .bad (some t)
def isRef (t:Tok):Bool:=[(1:Int),2].contains t.k
def decl (ts:List Tok):Res Dcl:=(take [3,4,5,6,7] ts).bind fun t r=>if t.k=7 then(take [1] r).bind fun n r=>.ok ⟨7,[n]⟩ r else(take [1,2] r).bind fun n r=>.ok ⟨t.k,n::r.takeWhile isRef⟩ (r.dropWhile isRef)
def decls:Nat→List Dcl→List Tok→Res (List Dcl)
 | 0,acc,ts=>.ok acc ts
 | f+1,acc,ts=>if is [9] ts then .ok acc ts else(decl ts).bind fun d r=>decls f (acc++[d]) r
def rule2 (left:Tok) (rs r:List Tok):Res Prd:=if is [8] r then(take [8] r).bind fun _ r=>(take [1,2] r).bind fun p r=>.ok ⟨left,rs,some p⟩ r else .ok ⟨left,rs,none⟩ r
def rule (left:Tok) (ts:List Tok):Res Prd:=rule2 left (ts.takeWhile isRef) (ts.dropWhile isRef)
def alts:Nat→Tok→List Prd→List Tok→Res (List Prd)
 | 0,_,acc,ts=>.ok acc ts
 | f+1,left,acc,ts=>(rule left ts).bind fun p r=>(take [11,12] r).bind fun t r=>if t.k=11 then alts f left (acc++[p]) r else .ok (acc++[p]) r
def group (acc:List Prd) (ts:List Tok):Res (List Prd):=(take [1] ts).bind fun left r=>(take [10] r).bind fun _ r=>alts (r.length+1) left acc r
def zf2:Nat→List Prd→List Tok→Res (List Prd)
 | 0,acc,ts=>.ok acc ts
 | f+1,acc,ts=>if ts.length≠0∧is [9] ts=false then(group acc ts).bind fun ps r=>zf2 f ps r else .ok acc ts
def zgH (ts:List Tok):Res Unit:=if ts.length=0 then .ok () ts else(take [] ts).bind fun _ r=>.ok () r
def tail (ts:List Tok):Res Unit:=if is [9] ts then(take [9] ts).bind fun _ r=>zgH r else zgH ts
def source (ts:List Tok):Res (List Dcl×List Prd):=(decls (ts.length+1) [] ts).bind fun ds r=>(take [9] r).bind fun _ r=>(group [] r).bind fun ps r=>(zf2 (r.length+1) ps r).bind fun ps r=>(tail r).bind fun _ r=>.ok (ds,ps) r
theorem take_cons (ks:List Int) (x:Tok) (xs:List Tok):take ks (x::xs)=if ks.contains x.k then .ok x xs else .bad (some x):=rfl
theorem take_ok {ks:List Int} {ts:List Tok} {t:Tok} {r:List Tok} (h:take ks ts=.ok t r):ts=t::r∧ks.contains t.k=true:=by
 cases ts with
 | nil=>cases h
 | cons x xs =>
  rw[take_cons]at h
  by_cases hx:ks.contains x.k=true
  ·rw[if_pos hx]at h;injection h with h1 h2;subst h1 h2;exact⟨rfl,hx⟩
  ·rw[if_neg hx]at h;cases h
theorem is_true {ks:List Int} {ts:List Tok} (h:is ks ts=true):∃t r,ts=t::r∧take ks ts=.ok t r∧ks.contains t.k=true:=by
 cases ts with
 | nil=>cases h
 | cons x xs=>exact⟨x,xs,rfl,by rw[take_cons,if_pos (show ks.contains x.k=true from h)],h⟩
theorem refs_end {ts:List Tok} (h:is [1,2] ts=false):ts.takeWhile isRef=[]∧ts.dropWhile isRef=ts:=by
 cases ts with
 | nil=>exact⟨rfl,rfl⟩
 | cons t r =>
  have h':isRef t=false:=h
  rw[List.takeWhile_cons,List.dropWhile_cons,h']
  exact⟨rfl,rfl⟩
theorem bind_eq_ok {α β:Type} {x:Res α} {f:α→List Tok→Res β} {b:β} {r:List Tok} (h:x.bind f=.ok b r):∃a m,x=.ok a m∧f a m=.ok b r:=by
 cases x with
 | ok a m=>exact⟨a,m,rfl,h⟩
 | bad p=>cases h
end Y
namespace Gm
inductive R (α:Type) where
 | ok:α→R α
 | bad:Tok→Int→R α
def R.bind {α β:Type} (r:R α) (f:α→R β):R β:=match r with | .ok a=>f a | .bad x e=>.bad x e
theorem R.bind_ok {α β:Type} (a:α) (f:α→R β):(R.ok a).bind f=f a:=rfl
theorem R.bind_eq {α β:Type} {x:R α} {f:α→R β} {b:β} (h:x.bind f=.ok b):∃a,x=.ok a∧f a=.ok b:=by
 cases x with
 | ok a=>exact⟨a,rfl,h⟩
 | bad x e=>cases h
def put (ts:List Tm) (x:Tok):R (List Tm×Int) :=
 if 0≤find (names ts) x.t then .ok (ts,find (names ts) x.t) else if ts.length=24 then .bad x 5 else .ok (ts++[⟨x.t,0,0⟩],ts.length)
structure S1 where
 ts:List Tm
 tk:List (List Int)
 st:Option Tok
 lv:Int
def decl1 (k:Int) (S:S1) (x:Tok):R S1 :=
 if k=7 then(if S.st.isSome then .bad x 7 else .ok {S with st:=some x})
 else if k=3 then(if x.t∈S.tk then .bad x 7 else(put S.ts x).bind fun p=>.ok {S with ts:=p.1,tk:=S.tk++[x.t]})
 else if 0≤find (names S.ts) x.t∧0<(S.ts.map Tm.lv).getD (find (names S.ts) x.t).toNat 0 then .bad x 7
 else(put S.ts x).bind fun p=>.ok {S with ts:=p.1.modify p.2.toNat fun t=>⟨t.nm,S.lv,k-3⟩}
def declN (k:Int):S1→List Tok→R S1
 | S,[]=>.ok S
 | S,x::r=>(decl1 k S x).bind fun S=>declN k S r
def up (k:Int) (S:S1):S1:=if k=3∨k=7 then S else {S with lv:=S.lv+1}
def decls:S1→List Y.Dcl→R S1
 | S,[]=>.ok S
 | S,d::r=>(declN d.k (up d.k S) d.ns).bind fun S=>decls S r
def left1 (ts:List Tm) (ns:List (List Int)) (x:Tok):R (List (List Int)) :=
 if 0≤find (names ts) x.t then .bad x 7 else if 0≤find ns x.t then .ok ns else if ns.length=16 then .bad x 5 else .ok (ns++[x.t])
def lefts (ts:List Tm):List (List Int)→List Y.Prd→R (List (List Int))
 | ns,[]=>.ok ns
 | ns,p::r=>(left1 ts ns p.l).bind fun ns=>lefts ts ns r
def sym (ts:List Tm) (x:Tok):R (List Tm×Int) :=
 if 0≤find (names ts) x.t∨T.isLit x.t=true∨x.t=[101,114,114,111,114] then put ts x else .bad x 6
def symR (ns:List (List Int)) (ts:List Tm) (x:Tok):R (List Tm×Int):=if 0≤find ns x.t then .ok (ts,-1-find ns x.t) else sym ts x
def symP (ns:List (List Int)) (ts:List Tm) (x:Tok):R (List Tm×Int):=if 0≤find ns x.t then .bad x 6 else sym ts x
def rights (ns:List (List Int)):List Tm→List Int→Int→List Tok→R (List Tm×List Int×Int)
 | ts,acc,p,[]=>.ok (ts,acc,p)
 | ts,acc,p,x::r=>if acc.length=6 then .bad x 5 else(symR ns ts x).bind fun q=>rights ns q.1 (acc++[q.2]) (if 0≤q.2 then q.2 else p) r
def prod1 (ns:List (List Int)) (ts:List Tm) (rs:List Rl) (p:Y.Prd):R (List Tm×List Rl) :=
 if rs.length=40 then .bad p.l 5 else(rights ns ts [] (-1) p.r).bind fun q=>match p.p with
  | none=>.ok (q.1,rs++[⟨find ns p.l.t,q.2.1,q.2.2⟩])
  | some x=>(symP ns q.1 x).bind fun y=>.ok (y.1,rs++[⟨find ns p.l.t,q.2.1,y.2⟩])
def prods (ns:List (List Int)):List Tm→List Rl→List Y.Prd→R (List Tm×List Rl)
 | ts,rs,[]=>.ok (ts,rs)
 | ts,rs,p::r=>(prod1 ns ts rs p).bind fun q=>prods ns q.1 q.2 r
def start (ns:List (List Int)):Option Tok→R Int
 | none=>.ok 0
 | some x=>if 0≤find ns x.t then .ok (find ns x.t) else .bad x 8
def build (ds:List Y.Dcl) (ps:List Y.Prd):R Gr :=
 (decls ⟨[],[],none,0⟩ ds).bind fun S=>(lefts S.ts [] ps).bind fun ns=>(prods ns S.ts [] ps).bind fun q=>(start ns S.st).bind fun z=>.ok ⟨q.1,ns,q.2,z⟩
end Gm
namespace Gm
theorem zbG (ts:List Tm):(names ts).length=ts.length:=by simp[names]
theorem put_ok {ts ts':List Tm} {x:Tok} {n:Int} (h:put ts x=.ok (ts',n)):(∃j:Nat,find (names ts) x.t=(j:Int)∧ts'=ts∧n=(j:Int)∧∃hj:j<ts.length,(ts[j]).nm=x.t)∨(x.t ∉ names ts∧ts'=ts++[⟨x.t,0,0⟩]∧n=(ts.length:Int)∧ts.length≠24):=by
 unfold put at h
 split at h
 ·rename_i h0
  injection h with h
  injection h with h1 h2
  obtain⟨i,e,hi,hs⟩:=zeW h0
  rw[zbG]at hi
  exact .inl ⟨i,e,h1.symm,by rw[←h2,e],hi,by simpa[names] using hs⟩
 ·rename_i h0
  split at h
  ·cases h
  ·rename_i h24
   injection h with h
   injection h with h1 h2
   exact .inr ⟨zaD.1 (by omega),h1.symm,h2.symm,h24⟩
theorem mem_modify {l:List Tm} {n:Nat} {f:Tm→Tm} {t:Tm} (h:t∈l.modify n f):t∈l ∨ ∃hn:n<l.length,t=f l[n]:=by
 obtain⟨i,hi,rfl⟩:=List.getElem_of_mem h
 rw[List.length_modify]at hi
 rw[List.getElem_modify]
 split
 ·rename_i e;subst e;exact .inr ⟨hi,rfl⟩
 ·exact .inl (List.getElem_mem _)
theorem few:∀(L:Nat) (ts:List Tm),(∀n:Nat,1≤n→n≤L→∃t∈ts,t.lv=(n:Int))→L≤ts.length
 | 0,_,_=>Nat.zero_le _
 | L+1,ts,h=>by
  obtain⟨t,ht,e⟩:=h (L+1) (by omega) (by omega)
  obtain⟨a,b,rfl⟩:=List.append_of_mem ht
  have:=few L (a++b) (fun n h1 h2=>by
   obtain⟨u,hu,eu⟩:=h n h1 (by omega)
   refine⟨u,?_,eu⟩
   simp only[List.mem_append,List.mem_cons]at hu ⊢
   rcases hu with q|q|q
   ·exact .inl q
   ·subst q;omega
   ·exact .inr q)
  simp at this ⊢
  omega
theorem zco {n w:Int} (hw:w≠0):∀(ts:List Tm) (way:Int),(∀t∈ts,t.lv=n→t.wy=w)→way=0∨way=w→way=w∨(∃t∈ts,t.lv=n)→lev n ts way=true
 | [],way,_,_,h=>by
  unfold lev
  rcases h with h|⟨t,ht,_⟩
  ·subst h;simpa using hw
  ·simp at ht
 | t::r,way,h1,h2,h3=>by
  rw[lev]
  by_cases hl:t.lv=n
  ·have e:=h1 t (List.mem_cons_self ..) hl
   rw[if_neg (show ¬t.lv≠n from fun q=>q hl),if_neg (show ¬(way≠0∧way≠t.wy) from fun q=>by rcases h2 with p|p;exact q.1 p;exact q.2 (p.trans e.symm))]
   exact zco hw r t.wy (fun u hu=>h1 u (List.mem_cons_of_mem _ hu)) (.inr e) (.inl e)
  ·rw[if_pos hl]
   refine zco hw r way (fun u hu=>h1 u (List.mem_cons_of_mem _ hu)) h2 ?_
   rcases h3 with h3|⟨u,hu,eu⟩
   ·exact .inl h3
   ·rcases List.mem_cons.1 hu with q|q
    ·subst q;exact absurd eu hl
    ·exact .inr ⟨u,q,eu⟩
theorem zcX {l:List (List Int)} (hn:l.Nodup) (i:Nat) (hi:i<l.length):find l l[i]=(i:Int) :=
 find_first i hi rfl fun k hk=>fun e=>List.pairwise_iff_getElem.1 hn k i (by omega) hi hk e
end Gm
namespace Gm
def zfd (n:Nat):List Int→Int→Bool
 | [],top=>top==n-1
 | l::r,top=>if l<0∨top+1<l then false else zfd n r (if top<l then l else top)
theorem left1_ok {ts:List Tm} {ns ns':List (List Int)} {x:Tok} (h:left1 ts ns x=.ok ns'):(ns'=ns∧0≤find ns x.t)∨(ns'=ns++[x.t]∧x.t ∉ ns∧x.t ∉ names ts∧ns.length≠16):=by
 unfold left1 at h
 split at h
 ·cases h
 ·rename_i h1
  split at h
  ·rename_i h2
   injection h with h
   exact .inl ⟨h.symm,h2⟩
  ·rename_i h2
   split at h
   ·cases h
   ·rename_i h3
    injection h with h
    exact .inr ⟨h.symm,zaD.1 (by omega),zaD.1 (by omega),h3⟩
theorem zbX (G:Gr):∀(rs:List Rl) (top:Int),(∀r∈rs,rule G r=true)→zfd G.ns.length (rs.map Rl.l) top=true→zbP G rs top=true
 | [],_,_,h=>h
 | r::rs,top,hr,h=>by
  rw[List.map_cons,zfd]at h
  rw[zbP]
  split at h
  ·cases h
  ·rename_i h1
   rw[if_neg (by rw[hr r (List.mem_cons_self ..)];simp;omega)]
   exact zbX G rs _ (fun y hy=>hr y (List.mem_cons_of_mem _ hy)) h
end Gm
end Go.Proofs.Ytcgclkndkahgaaa
namespace Go.Proofs.Ytcgclkndkahgaaa
set_option maxRecDepth 100000
set_option maxHeartbeats 40000000
open Go.RowKit
namespace Gm
theorem zdc:∀(g:Nat) (l:List Int),l.Nodup→(∀x∈l,1≤x∧x≤g)→l.length≤g∧(l.length=g→∀n:Nat,1≤n→n≤g→(n:Int)∈l)
 | 0,l,_,hb=>by
  have:l=[]:=by
   rcases l with _|⟨x,r⟩
   ·rfl
   ·have:=hb x (by simp);omega
  subst this
  exact⟨Nat.le_refl _,fun _ n h1 h2=>by omega⟩
 | g+1,l,hn,hb=>by
  by_cases hm:((g+1:Nat):Int)∈l
  ·have hl:=List.length_erase_of_mem hm
   have hpos:0<l.length:=List.length_pos_of_mem hm
   obtain⟨h1,h2⟩:=zdc g (l.erase ((g+1:Nat):Int)) (hn.erase _) (fun x hx=>by
    have hx':=(hn.mem_erase_iff).1 hx
    have:=hb x hx'.2
    have:=hx'.1
    omega)
   refine⟨by omega,fun e n q1 q2=>?_⟩
   by_cases hg:n=g+1
   ·subst hg;exact hm
   ·exact List.mem_of_mem_erase (h2 (by omega) n q1 (by omega))
  ·obtain⟨h1,_⟩:=zdc g l hn (fun x hx=>by
    have:=hb x hx
    have:x≠((g+1:Nat):Int):=fun e=>hm (e▸hx)
    omega)
   exact⟨by omega,fun e=>by omega⟩
structure LvGood (ts:List Tm):Prop where
 a:∀t∈ts,asB t=true
 b:∀t∈ts,∀u∈ts,0<t.lv→t.lv=u.lv→t.wy=u.wy
 c:∀t∈ts,∀n:Nat,1≤n→(n:Int)≤t.lv→∃u∈ts,u.lv=(n:Int)
theorem zcx (t:Tm):asB t=true↔0≤t.lv∧0≤t.wy∧t.wy≤3∧(t.lv=0↔t.wy=0):=by
 unfold asB
 by_cases h0:t.wy=0
 ·rw[if_pos h0]
  simp only[beq_iff_eq]
  omega
 ·rw[if_neg h0]
  by_cases h1:t.wy=1∨t.wy=2∨t.wy=3
  ·rw[if_pos h1]
   simp only[decide_eq_true_eq]
   omega
  ·rw[if_neg h1]
   simp only[Bool.false_eq_true,false_iff]
   omega
structure Inv (pre:List Tm) (m:List (Int×Int)) (g:Int):Prop where
 n:(m.map Prod.fst).Nodup
 f:∀t∈pre,0<t.lv→Mw.asc m t.lv=some t.wy
 r:∀l w,Mw.asc m l=some w→0<l∧∃t∈pre,t.lv=l∧t.wy=w
 a:∀t∈pre,asB t=true
 g0:0≤g
 g1:∀t∈pre,t.lv≤g
 g2:g=0 ∨ ∃t∈pre,t.lv=g
theorem Inv.nil:Inv [] [] 0:=⟨by simp,by simp,fun _ _ h=>by simp[Mw.asc]at h,by simp,Int.le_refl _,by simp,.inl rfl⟩
theorem Inv.key {pre:List Tm} {m:List (Int×Int)} {g:Int} (h:Inv pre m g) {x:Int} (hx:x∈m.map Prod.fst):∃w,Mw.asc m x=some w:=by
 obtain⟨p,hp,rfl⟩:=List.mem_map.1 hx
 exact⟨p.2,Mw.asc_of_mem h.n hp⟩
theorem Inv.next {pre:List Tm} {m:List (Int×Int)} {g:Int} {t:Tm} (h:Inv pre m g) (ha:asB t=true) (hc:¬((Mw.asc m t.lv).isSome=true∧(Mw.asc m t.lv).getD 0≠t.wy)):Inv (pre++[t]) (zcQ m t) (max g t.lv):=by
 have hl:=((zcx t).1 ha).1
 have hmem:∀u,u∈pre++[t]↔u∈pre∨u=t:=fun u=>by simp
 have hg0:=h.g0
 have hgg:0≤max g t.lv∧(∀u∈pre++[t],u.lv≤max g t.lv)∧(max g t.lv=0 ∨ ∃u∈pre++[t],u.lv=max g t.lv):=by
  refine⟨by omega,fun u hu=>?_,?_⟩
  ·rcases(hmem u).1 hu with q|rfl
   ·have:=h.g1 u q;omega
   ·omega
  ·by_cases hgt:g≤t.lv
   ·exact .inr ⟨t,(hmem t).2 (.inr rfl),by omega⟩
   ·rcases h.g2 with q|⟨u,hu,e⟩
    ·omega
    ·exact .inr ⟨u,(hmem u).2 (.inl hu),by omega⟩
 have haa:∀u∈pre++[t],asB u=true:=fun u hu=>by
  rcases(hmem u).1 hu with q|rfl
  ·exact h.a u q
  ·exact ha
 unfold zcQ
 by_cases hp:0<t.lv
 ·rw[if_pos hp]
  cases hq:Mw.asc m t.lv with
  | none =>
   rw[if_pos rfl]
   refine⟨?_,?_,?_,haa,hgg.1,hgg.2.1,hgg.2.2⟩
   ·rw[List.map_append,List.nodup_append]
    refine⟨h.n,by simp,fun x hx y hy e=>?_⟩
    simp only[List.map_cons,List.map_nil,List.mem_singleton]at hy
    obtain⟨w,hw⟩:=h.key hx
    rw[e,hy,hq]at hw;cases hw
   ·intro u hu h0
    rw[Mw.asc_snoc hq]
    rcases(hmem u).1 hu with q|rfl
    ·have:=h.f u q h0
     by_cases e:t.lv=u.lv
     ·rw[←e,hq]at this;cases this
     ·rw[if_neg e];exact this
    ·rw[if_pos rfl]
   ·intro l w hw
    rw[Mw.asc_snoc hq]at hw
    by_cases e:t.lv=l
    ·rw[if_pos e]at hw
     injection hw with hw
     exact⟨by omega,t,(hmem t).2 (.inr rfl),e,hw⟩
    ·rw[if_neg e]at hw
     obtain⟨h1,u,hu,h2⟩:=h.r l w hw
     exact⟨h1,u,(hmem u).2 (.inl hu),h2⟩
  | some w =>
   rw[if_neg (by simp)]
   have hwt:w=t.wy:=Classical.byContradiction fun e=>hc (by rw[hq];exact⟨rfl,e⟩)
   refine⟨h.n,?_,?_,haa,hgg.1,hgg.2.1,hgg.2.2⟩
   ·intro u hu h0
    rcases(hmem u).1 hu with q|rfl
    ·exact h.f u q h0
    ·rw[hq,hwt]
   ·intro l w hw
    obtain⟨h1,u,hu,h2⟩:=h.r l w hw
    exact⟨h1,u,(hmem u).2 (.inl hu),h2⟩
 ·rw[if_neg hp]
  refine⟨h.n,?_,?_,haa,hgg.1,hgg.2.1,hgg.2.2⟩
  ·intro u hu h0
   rcases(hmem u).1 hu with q|rfl
   ·exact h.f u q h0
   ·exact absurd h0 hp
  ·intro l w hw
   obtain⟨h1,u,hu,h2⟩:=h.r l w hw
   exact⟨h1,u,(hmem u).2 (.inl hu),h2⟩
theorem zey:∀(r pre:List Tm) (m:List (Int×Int)) (g:Int),Inv pre m g→(rlF r m g=true↔LvGood (pre++r))
 | [],pre,m,g,h=>by
  rw[List.append_nil,rlF,beq_iff_eq]
  have hin:∀x∈m.map Prod.fst,1≤x∧x≤(g.toNat:Int):=fun x hx=>by
   obtain⟨w,hw⟩:=h.key hx
   obtain⟨h1,u,hu,h2,_⟩:=h.r x w hw
   have:=h.g1 u hu
   have:=h.g0
   omega
  obtain⟨p1,p2⟩:=zdc g.toNat (m.map Prod.fst) h.n hin
  rw[List.length_map]at p1 p2
  have hg0:=h.g0
  constructor
  ·intro e
   refine⟨h.a,fun t ht u hu h0 e'=>?_,fun t ht n q1 q2=>?_⟩
   ·have a1:=h.f t ht h0
    have a2:=h.f u hu (by omega)
    rw[e',a2]at a1
    injection a1 with a1
    exact a1.symm
   ·have:=h.g1 t ht
    have hk:=p2 (by omega) n q1 (by omega)
    obtain⟨w,hw⟩:=h.key hk
    obtain⟨_,u,hu,h2,_⟩:=h.r _ w hw
    exact⟨u,hu,h2⟩
  ·intro hgd
   rcases h.g2 with q|⟨t,ht,e⟩
   ·omega
   ·have:g.toNat≤(m.map Prod.fst).length:=by
     have hh:∀n:Nat,1≤n→n≤g.toNat→∃t∈m.map (fun p=>(⟨[],p.1,0⟩:Tm)),t.lv=(n:Int):=fun n q1 q2=>by
      obtain⟨u,hu,e2⟩:=hgd.c t ht n q1 (by omega)
      have:=h.f u hu (by omega)
      rw[e2]at this
      exact⟨_,List.mem_map.2 ⟨_,Mw.asc_mem this,rfl⟩,rfl⟩
     have:=few g.toNat _ hh
     simpa using this
    rw[List.length_map]at this
    omega
 | t::r,pre,m,g,h=>by
  rw[rlF]
  by_cases ha:asB t=false
  ·rw[if_pos ha]
   simp only[Bool.false_eq_true,false_iff]
   intro q
   have:=q.a t (by simp)
   rw[ha]at this;cases this
  ·rw[if_neg ha]
   have ha:asB t=true:=by simpa using ha
   by_cases hc:(Mw.asc m t.lv).isSome=true∧(Mw.asc m t.lv).getD 0≠t.wy
   ·rw[if_pos hc]
    simp only[Bool.false_eq_true,false_iff]
    intro q
    cases hq:Mw.asc m t.lv with
    | none=>rw[hq]at hc;simp at hc
    | some w =>
     rw[hq]at hc
     obtain⟨h1,u,hu,h2,h3⟩:=h.r _ w hq
     have:=q.b u (by simp[hu]) t (by simp) (by omega) h2
     exact hc.2 (by simp only[Option.getD_some];omega)
   ·rw[if_neg hc,zey r (pre++[t]) _ _ (h.next ha hc),List.append_assoc,List.singleton_append]
theorem zcp {n:Int}:∀(ts:List Tm) (way:Int),(∀t∈ts,t.lv=n→t.wy≠0)→lev n ts way=true→(way≠0 ∨ ∃t∈ts,t.lv=n)∧∃w,(way=0∨way=w)∧∀t∈ts,t.lv=n→t.wy=w
 | [],way,_,h=>by
  rw[lev]at h
  have:way≠0:=by simpa using h
  exact⟨.inl this,way,.inr rfl,by simp⟩
 | t::r,way,hn,h=>by
  rw[lev]at h
  by_cases h1:t.lv≠n
  ·rw[if_pos h1]at h
   obtain⟨a,w,b,c⟩:=zcp r way (fun u hu=>hn u (by simp[hu])) h
   refine⟨?_,w,b,fun u hu e=>?_⟩
   ·rcases a with a|⟨u,hu,e⟩
    ·exact .inl a
    ·exact .inr ⟨u,by simp[hu],e⟩
   ·rcases List.mem_cons.1 hu with rfl|hu
    ·exact absurd e h1
    ·exact c u hu e
  ·rw[if_neg h1]at h
   have h1:t.lv=n:=Classical.byContradiction h1
   by_cases h2:way≠0∧way≠t.wy
   ·rw[if_pos h2]at h;cases h
   ·rw[if_neg h2]at h
    obtain⟨a,w,b,c⟩:=zcp r t.wy (fun u hu=>hn u (by simp[hu])) h
    have hw:t.wy=w:=by
     rcases b with b|b
     ·exact absurd b (hn t (by simp) h1)
     ·exact b
    refine⟨.inr ⟨t,by simp,h1⟩,w,?_,fun u hu e=>?_⟩
    ·by_cases hw0:way=0
     ·exact .inl hw0
     ·refine .inr (Classical.byContradiction fun q=>h2 ⟨hw0,fun e=>q (e.trans hw)⟩)
    ·rcases List.mem_cons.1 hu with rfl|hu
     ·exact hw
     ·exact c u hu e
def zhi (ts:List Tm):Prop:=∀t∈ts,0≤t.lv∧t.lv≤24∧0≤t.wy∧t.wy≤3∧(t.lv=0↔t.wy=0)∧∀n:Nat,n<t.lv.toNat→lev ((n+1:Nat):Int) ts 0=true
theorem zfZ {ts:List Tm} (hl:ts.length≤24):LvGood ts↔zhi ts:=by
 constructor
 ·intro h t ht
  have ha:=(zcx t).1 (h.a t ht)
  have h24:t.lv.toNat≤ts.length:=few t.lv.toNat ts fun n q1 q2=>h.c t ht n q1 (by omega)
  refine⟨ha.1,by omega,ha.2.1,ha.2.2.1,ha.2.2.2,fun n hn=>?_⟩
  obtain⟨u,hu,e⟩:=h.c t ht (n+1) (by omega) (by omega)
  have hau:=(zcx u).1 (h.a u hu)
  exact zco (w:=u.wy) (by omega) ts 0 (fun x hx ex=>(h.b u hu x hx (by omega) (by omega)).symm) (.inl rfl) (.inr ⟨u,hu,e⟩)
 ·intro h
  refine⟨fun t ht=>(zcx t).2 ?_,fun t ht u hu h0 e=>?_,fun t ht n q1 q2=>?_⟩
  ·obtain⟨h1,h2,h3,h4,h5,_⟩:=h t ht
   exact⟨h1,h3,h4,h5⟩
  ·obtain⟨h1,h2,h3,h4,h5,h6⟩:=h t ht
   have hl:=h6 (t.lv.toNat-1) (by omega)
   have hn:((t.lv.toNat-1+1:Nat):Int)=t.lv:=by omega
   rw[hn]at hl
   obtain⟨_,w,_,c⟩:=zcp ts 0 (fun x hx ex q=>by have:=(h x hx).2.2.2.2.1;omega) hl
   rw[c t ht rfl,c u hu e.symm]
  ·obtain⟨h1,h2,h3,h4,h5,h6⟩:=h t ht
   have hl:=h6 (n-1) (by omega)
   have hn:((n-1+1:Nat):Int)=(n:Int):=by omega
   rw[hn]at hl
   obtain⟨a,_⟩:=zcp ts 0 (fun x hx ex q=>by have:=(h x hx).2.2.2.2.1;omega) hl
   rcases a with a|a
   ·exact absurd rfl a
   ·exact a
theorem zb6 {l:List (List Int)} (h:∀i (hi:i<l.length),find l l[i]=(i:Int)):l.Nodup:=by
 rw[List.nodup_iff_pairwise_ne,List.pairwise_iff_getElem]
 intro i j hi hj hij e
 have h1:=h i hi
 have h2:=h j hj
 rw[e,h2]at h1
 omega
theorem zek (ts:List Tm):zfe ts=true↔ts.length≤24∧(∀t∈ts,named t.nm=true)∧(names ts).Nodup∧zhi ts:=by
 unfold zfe
 rw[Bool.and_eq_true,decide_eq_true_eq,decide_eq_true_eq]
 have hnl:(names ts).length=ts.length:=zbG ts
 have hni:∀i (h:i<ts.length),(names ts)[i]'(by omega)=ts[i].nm:=fun i h=>by simp[names]
 constructor
 ·rintro⟨h1,h2⟩
  have h3:∀i (h:i<ts.length),named ts[i].nm=true∧find (names ts) ts[i].nm=(i:Int)∧0≤ts[i].lv∧ts[i].lv≤24∧0≤ts[i].wy∧ts[i].wy≤3∧(ts[i].lv=0↔ts[i].wy=0)∧∀n:Nat,n<ts[i].lv.toNat→lev ((n+1:Nat):Int) ts 0=true:=fun i h=>by
   have:=h2 i h
   unfold zf8 at this
   simp only[Bool.and_eq_true,decide_eq_true_eq,beq_iff_eq]at this
   obtain⟨⟨⟨⟨⟨⟨⟨a,b⟩,c⟩,d⟩,e⟩,f⟩,g⟩,k⟩:=this
   refine⟨a,b,c,d,e,f,?_,k⟩
   rw[Bool.eq_iff_iff,beq_iff_eq,beq_iff_eq]at g
   exact g
  refine⟨h1,fun t ht=>?_,zb6 fun i hi=>?_,fun t ht=>?_⟩
  ·obtain⟨i,hi,rfl⟩:=List.getElem_of_mem ht;exact(h3 i hi).1
  ·rw[hni i (by omega)];exact(h3 i (by omega)).2.1
  ·obtain⟨i,hi,rfl⟩:=List.getElem_of_mem ht;exact(h3 i hi).2.2
 ·rintro⟨h1,h2,h3,h4⟩
  refine⟨h1,fun i hi=>?_⟩
  unfold zf8
  simp only[Bool.and_eq_true,decide_eq_true_eq,beq_iff_eq]
  obtain⟨c,d,e,f,g,k⟩:=h4 _ (List.getElem_mem hi)
  refine⟨⟨⟨⟨⟨⟨⟨h2 _ (List.getElem_mem hi),?_⟩,c⟩,d⟩,e⟩,f⟩,?_⟩,k⟩
  ·rw[←hni i hi];exact zcX h3 i (by omega)
  ·rw[Bool.eq_iff_iff,beq_iff_eq,beq_iff_eq];exact g
theorem nons_iff (G:Gr):zhn G=true↔1≤G.ns.length∧G.ns.length≤16∧(∀s∈G.ns,T.isName s=true)∧G.ns.Nodup∧∀s∈G.ns,s ∉ names G.ts:=by
 unfold zhn
 rw[Bool.and_eq_true,Bool.and_eq_true,decide_eq_true_eq,decide_eq_true_eq,decide_eq_true_eq]
 constructor
 ·rintro⟨⟨h1,h2⟩,h3⟩
  have h4:∀i (h:i<G.ns.length),T.isName G.ns[i]=true∧find G.ns G.ns[i]=(i:Int)∧find (names G.ts) G.ns[i]<0:=fun i h=>by
   have:=h3 i h
   unfold zhu non term at this
   simp only[Bool.and_eq_true,decide_eq_true_eq,beq_iff_eq]at this
   exact⟨this.1.1,this.1.2,this.2⟩
  refine⟨h1,h2,fun s hs=>?_,zb6 fun i hi=>(h4 i hi).2.1,fun s hs=>?_⟩
  ·obtain⟨i,hi,rfl⟩:=List.getElem_of_mem hs;exact(h4 i hi).1
  ·obtain⟨i,hi,rfl⟩:=List.getElem_of_mem hs;exact zaD.1 (h4 i hi).2.2
 ·rintro⟨h1,h2,h3,h4,h5⟩
  refine⟨⟨h1,h2⟩,fun i hi=>?_⟩
  unfold zhu non term
  simp only[Bool.and_eq_true,decide_eq_true_eq,beq_iff_eq]
  exact⟨⟨h3 _ (List.getElem_mem hi),zcX h4 i hi⟩,zaD.2 (h5 _ (List.getElem_mem hi))⟩
theorem zgK (G:Gr):rnB G=true↔G.ts.length≤24∧1≤G.ns.length∧G.ns.length≤16∧(∀t∈G.ts,named t.nm=true)∧(∀s∈G.ns,T.isName s=true)∧(names G.ts++G.ns).Nodup:=by
 unfold rnB nmL
 simp only[Bool.and_eq_true,decide_eq_true_eq,List.all_eq_true,List.length_map]
 have h:=(zhc [] (names G.ts++G.ns) (by simp)).2
 simp only[List.length_nil,Nat.zero_add,List.nil_append,List.length_append,zbG]at h
 rw[h]
 constructor
 ·rintro⟨⟨⟨⟨⟨a,b⟩,c⟩,d⟩,e⟩,f⟩;exact⟨a,b,c,d,e,f⟩
 ·rintro⟨a,b,c,d,e,f⟩;exact⟨⟨⟨⟨⟨a,b⟩,c⟩,d⟩,e⟩,f⟩
theorem zhr (G:Gr) (x:Rl):ruB G x=rule G x:=by
 rw[Bool.eq_iff_iff]
 unfold ruB rule
 have hn:x.r.any (za9 G)=false ↔ ∀z∈x.r,has G z=true:=by
  rw[List.any_eq_false]
  unfold za9
  constructor
  ·intro h z hz;have:=h z hz;simpa using this
  ·intro h z hz;rw[h z hz];simp
 have ht:x.r.any isT=false ↔ ∀z∈x.r,¬0≤z:=by
  rw[List.any_eq_false]
  unfold isT
  constructor
  ·intro h z hz;simpa using h z hz
  ·intro h z hz;simpa using h z hz
 simp only[Bool.and_eq_true,decide_eq_true_eq,Bool.not_eq_true',List.all_eq_true,hn]
 by_cases hp:x.p = -1
 ·rw[if_pos hp]
  simp only[Bool.not_eq_true',ht,hp,beq_self_eq_true,Bool.and_true,decide_eq_false_iff_not]
  constructor
  ·rintro⟨⟨a,b⟩,c⟩;exact⟨⟨⟨a,by omega⟩,by omega⟩,fun z hz=>⟨b z hz,c z hz⟩⟩
  ·rintro⟨⟨⟨a,_⟩,_⟩,b⟩;exact⟨⟨a,fun z hz=>(b z hz).1⟩,fun z hz=>(b z hz).2⟩
 ·rw[if_neg hp]
  have hp':(x.p == -1)=false:=by simpa using hp
  simp only[hp',Bool.and_false,and_true,Bool.and_eq_true]
  unfold isT has
  rw[decide_eq_true_eq]
  constructor
  ·rintro⟨⟨a,b⟩,c,d⟩
   rw[if_pos c,decide_eq_true_eq]at d
   exact⟨⟨⟨a,by omega⟩,d⟩,b⟩
  ·rintro⟨⟨⟨a,b⟩,c⟩,d⟩
   have h0:0≤x.p:=by omega
   exact⟨⟨a,d⟩,h0,by rw[if_pos h0,decide_eq_true_eq];exact c⟩
theorem zgJ (G:Gr):∀(rs:List Rl) (top:Int),rrF G rs (top+1)=zbP G rs top
 | [],top=>by
  rw[rrF,zbP,Bool.eq_iff_iff,beq_iff_eq,beq_iff_eq]
  omega
 | r::rs,top=>by
  rw[rrF,zbP,zhr]
  by_cases h:r.l<0∨top+1<r.l∨rule G r=false
  ·rw[if_pos h,if_pos h]
  ·rw[if_neg h,if_neg h]
   rw[←zgJ G rs]
   congr 1
   by_cases h2:top<r.l
   ·rw[if_pos h2];omega
   ·rw[if_neg h2];omega
theorem right_eq (G:Gr):zbs G=right G:=by
 rw[Bool.eq_iff_iff]
 unfold zbs right rrB
 have hrr:=zgJ G G.rs (-1)
 rw[show(-1:Int)+1=0 from rfl]at hrr
 simp only[Bool.and_eq_true,decide_eq_true_eq,hrr,zgK,zek,nons_iff]
 have hlv:=zey G.ts [] [] 0 Inv.nil
 rw[List.nil_append]at hlv
 rw[hlv,List.nodup_append]
 constructor
 ·rintro⟨⟨⟨⟨⟨a,b,c,d,e,f1,f2,f3⟩,g⟩,h,k⟩,l⟩,m⟩
  refine⟨⟨⟨⟨⟨⟨⟨a,d,f1,(zfZ a).1 g⟩,b,c,e,f2,fun s hs q=>f3 s q s hs rfl⟩,?_⟩,h⟩,l⟩,m⟩,k⟩
  rcases hz:G.rs with _|⟨x,r⟩
  ·rw[hz,zbP,beq_iff_eq]at k;omega
  ·simp
 ·rintro⟨⟨⟨⟨⟨⟨⟨a,d,f1,g⟩,b,c,e,f2,f3⟩,_⟩,h⟩,l⟩,m⟩,k⟩
  exact⟨⟨⟨⟨⟨a,b,c,d,e,f1,f2,fun s hs q hq ee=>f3 q hq (ee▸hs)⟩,(zfZ a).2 g⟩,h,k⟩,l⟩,m⟩
end Gm
theorem zaY (v:Value) (G:Gm.Gr) (B:Nat) (w:World) (hg:aS w B v G) (hf:Gm.Fit G) (hB:B≤w.heap.size) :
  Calls Try.prog 14 #[v] w fun e w'=>e=.returned (.bool (Gm.right G))∧Below w.heap.size w w':=by
 rw[←Gm.right_eq]
 exact zd5 v G B w hg hf hB
end Go.Proofs.Ytcgclkndkahgaaa
namespace Go.Proofs.Ytcgclkndkahgaaa
set_option maxRecDepth 100000
set_option maxHeartbeats 40000000
namespace Gm
noncomputable def tr (p:Prop):Bool:=@decide p (Classical.propDecidable p)
theorem tr_iff {p:Prop}:tr p=true↔p:=by unfold tr;exact @decide_eq_true_iff p (Classical.propDecidable p)
theorem tr_no {p:Prop}:tr p=false ↔ ¬p:=by unfold tr;exact @decide_eq_false_iff_not p (Classical.propDecidable p)
inductive Gn (tm:Bool) (rs:List Rl):Int→Prop
 | mk (x:Rl) (hx:x∈rs) (ht:∀z∈x.r,0≤z→tm=true) (hn:∀z∈x.r,z<0→Gn tm rs (-1-z)):Gn tm rs x.l
def Al (tm:Bool) (rs:List Rl) (r:List Int):Prop:=(∀z∈r,0≤z→tm=true)∧∀z∈r,z<0→Gn tm rs (-1-z)
theorem Gn.of {tm:Bool} {rs:List Rl} {x:Rl} (hx:x∈rs) (h:Al tm rs x.r):Gn tm rs x.l:=.mk x hx h.1 h.2
theorem Gn.rule {tm:Bool} {rs:List Rl} {j:Int} (h:Gn tm rs j):∃x∈rs,x.l=j∧Al tm rs x.r:=by
 cases h with
 | mk x hx ht hn=>exact⟨x,hx,rfl,ht,hn⟩
theorem Gn.more {tm:Bool} {rs rs':List Rl} (hs:∀x∈rs,x∈rs') {j:Int} (h:Gn tm rs j):Gn tm rs' j:=by
 induction h with
 | mk x hx ht _ ih=>exact .mk x (hs x hx) ht ih
inductive Rc (G:Gr):Int→Prop
 | st:Rc G G.st
 | on (x:Rl) (hx:x∈G.rs) (h:Rc G x.l) (hp:Al true G.rs x.r) (z:Int) (hz:z∈x.r) (hn:z<0):Rc G (-1-z)
theorem Al.more {tm:Bool} {rs rs':List Rl} (hs:∀x∈rs,x∈rs') {r:List Int} (h:Al tm rs r):Al tm rs' r:=⟨h.1,fun z hz hn=>(h.2 z hz hn).more hs⟩
theorem Rc.more {G H:Gr} (hs:∀x∈G.rs,x∈H.rs) (he:G.st=H.st) {j:Int} (h:Rc G j):Rc H j:=by
 induction h with
 | st=>rw[he];exact .st
 | on x hx _ hp z hz hn ih=>exact .on x (hs x hx) ih (hp.more hs) z hz hn
noncomputable def gn (tm:Bool) (rs:List Rl) (n:Nat):List Bool:=(List.range n).map fun i:Nat=>tr (Gn tm rs (i:Int))
def Le:List Bool→List Bool→Prop
 | [],[]=>True
 | a::r,b::s=>(a=true→b=true)∧Le r s
 | _,_=>False
theorem Le.refl:∀s,Le s s
 | []=>trivial
 | _::s=>⟨id,Le.refl s⟩
theorem Le.trans:∀ {a b c:List Bool},Le a b→Le b c→Le a c
 | [],[],[],_,_=>trivial
 | _::_,_::_,_::_,h,k=>⟨fun e=>k.1 (h.1 e),h.2.trans k.2⟩
 | [],_::_,_,h,_=>h.elim
 | _::_,[],_,h,_=>h.elim
 | [],[],_::_,_,k=>k.elim
 | _::_,_::_,[],_,k=>k.elim
theorem Le.len:∀ {a b:List Bool},Le a b→a.length=b.length
 | [],[],_=>rfl
 | _::_,_::_,h=>by simp[h.2.len]
 | [],_::_,h=>h.elim
 | _::_,[],h=>h.elim
theorem Le.get:∀ {a b:List Bool} (i:Nat),Le a b→a.getD i false=true→b.getD i false=true
 | [],[],_,_,h=>h
 | _::_,_::_,0,h,e=>h.1 e
 | _::_,_::_,i+1,h,e=>by
  simp only[List.getD_cons_succ]at e ⊢
  exact h.2.get i e
 | [],_::_,_,h,_=>h.elim
 | _::_,[],_,h,_=>h.elim
theorem Le.of:∀ {a b:List Bool},a.length=b.length→(∀i,a.getD i false=true→b.getD i false=true)→Le a b
 | [],[],_,_=>trivial
 | x::a,y::b,h,k=>⟨fun e=>k 0 e,Le.of (by simpa using h) fun i e=>by simpa using k (i+1) (by simpa using e)⟩
 | [],_::_,h,_=>by simp at h
 | _::_,[],h,_=>by simp at h
theorem Le.set:∀(s:List Bool) (i:Nat),Le s (s.set i true)
 | [],_=>trivial
 | _::s,0=>⟨fun _=>rfl,Le.refl s⟩
 | _::s,i+1=>⟨id,Le.set s i⟩
def ct (s:List Bool):Nat:=s.count true
theorem Le.ct:∀ {a b:List Bool},Le a b→ct a≤ct b
 | [],[],_=>Nat.le_refl _
 | x::a,y::b,h=>by
  have:=h.2.ct
  unfold Gm.ct at *
  cases x <;> cases y <;> simp_all [Le] <;> omega
 | [],_::_,h=>h.elim
 | _::_,[],h=>h.elim
theorem Le.ct_eq:∀ {a b:List Bool},Le a b→Gm.ct b≤Gm.ct a→a=b
 | [],[],_,_=>rfl
 | x::a,y::b,h,k=>by
  have h2:=h.2.ct
  have h3:=h.2.ct_eq
  unfold Gm.ct at *
  cases x <;> cases y <;> simp_all [Le] <;> omega
 | [],_::_,h,_=>h.elim
 | _::_,[],h,_=>h.elim
theorem zhA (s:List Bool):ct s≤s.length:=List.count_le_length
def aQ (f:List Bool→List Bool):Nat→List Bool→List Bool
 | 0,s=>s
 | n+1,s=>f (aQ f n s)
theorem zdt {f:List Bool→List Bool} (h:∀s,Le s (f s)) (n:Nat) (s:List Bool):Le s (aQ f n s):=by
 induction n with
 | zero=>exact Le.refl s
 | succ n ih=>exact ih.trans (h _)
theorem zej {f:List Bool→List Bool} (h:∀s,Le s (f s)) (s:List Bool):f (aQ f s.length s)=aQ f s.length s:=by
 have key:∀n,f (aQ f n s)=aQ f n s∨n≤ct (aQ f n s):=by
  intro n
  induction n with
  | zero=>exact .inr (Nat.zero_le _)
  | succ n ih =>
   by_cases hf:f (aQ f n s)=aQ f n s
   ·left;show f (f (aQ f n s))=f (aQ f n s);rw[hf,hf]
   ·right
    rcases ih with ih|ih
    ·exact absurd ih hf
    ·have h1:=(h (aQ f n s)).ct
     have h2:¬ct (f (aQ f n s))≤ct (aQ f n s):=fun hc=>hf ((h _).ct_eq hc).symm
     show n+1≤ct (f (aQ f n s))
     omega
 rcases key s.length with h1|h1
 ·exact h1
 ·refine((h _).ct_eq ?_).symm
  have:=(zdt h s.length s).len
  have h2:=zhA (f (aQ f s.length s))
  have h3:=(h (aQ f s.length s)).len
  omega
def allB (tm:Bool) (is:List Bool) (r:List Int):Bool:=r.all fun z=>if 0≤z then tm else is.getD (-1-z).toNat false
theorem zdJ (s:List Bool) (i j:Nat) (h:(s.set i true).getD j false=true):s.getD j false=true∨j=i:=by
 by_cases e:i=j
 ·exact .inr e.symm
 ·left
  rwa [List.getD_eq_getElem?_getD,List.getElem?_set_ne e,←List.getD_eq_getElem?_getD]at h
theorem zdv (s:List Bool) (i:Nat) (h:i<s.length):(s.set i true).getD i false=true:=by
 simp[List.getD_eq_getElem?_getD,h]
def Lin (n:Nat) (rs:List Rl):Prop:=∀x∈rs,0≤x.l∧x.l<(n:Int)
end Gm
namespace Gm
theorem Gn.lin {tm:Bool} {rs:List Rl} {n:Nat} (hl:Lin n rs) {j:Int} (h:Gn tm rs j):0≤j∧j<n:=by
 obtain⟨x,hx,rfl,_⟩:=h.rule
 exact hl x hx
def Sin (n:Nat) (r:List Int):Prop:=∀z∈r,z<0→-1-z<(n:Int)
structure Ok (G:Gr):Prop where
 t:zfe G.ts=true
 n:zhn G=true
 r1:1≤G.rs.length
 r40:G.rs.length≤40
 s0:0≤G.st
 s1:G.st<G.ns.length
 rr:∀x∈G.rs,rule G x=true
 tp:zfd G.ns.length (G.rs.map Rl.l) (-1)=true
theorem zbV (G:Gr):∀(rs:List Rl) (top:Int),zbP G rs top=true→(∀r∈rs,rule G r=true)∧zfd G.ns.length (rs.map Rl.l) top=true
 | [],_,h=>⟨by simp,h⟩
 | r::rs,top,h=>by
  rw[zbP]at h
  split at h
  ·cases h
  ·rename_i h1
   have h2:=zbV G rs _ h
   have h3:rule G r=true:=by cases hr:rule G r <;> simp_all
   refine⟨fun x hx=>?_,?_⟩
   ·rcases List.mem_cons.1 hx with rfl|hx
    ·exact h3
    ·exact h2.1 x hx
   ·rw[List.map_cons,zfd,if_neg (by omega)]
    exact h2.2
theorem right_ok {G:Gr}:right G=true↔Ok G:=by
 constructor
 ·intro h
  unfold right at h
  simp only[Bool.and_eq_true,decide_eq_true_eq]at h
  obtain⟨⟨⟨⟨⟨⟨h1,h2⟩,h3⟩,h4⟩,h5⟩,h6⟩,h7⟩:=h
  have:=zbV G _ _ h7
  exact⟨h1,h2,h3,h4,h5,h6,this.1,this.2⟩
 ·intro h
  unfold right
  simp only[Bool.and_eq_true,decide_eq_true_eq]
  exact⟨⟨⟨⟨⟨⟨h.t,h.n⟩,h.r1⟩,h.r40⟩,h.s0⟩,h.s1⟩,zbX G _ _ h.rr h.tp⟩
theorem zef {n:Nat}:∀(ls:List Int) (top:Int),zfd n ls top=true→top≤n-1∧∀l∈ls,0≤l∧l<n
 | [],top,h=>by
  rw[zfd]at h
  have:top=n-1:=by simpa using h
  exact⟨by omega,by simp⟩
 | l::r,top,h=>by
  rw[zfd]at h
  split at h
  ·cases h
  ·have h2:=zef r _ h
   refine⟨by have:=h2.1;split at this <;> omega,fun x hx=>?_⟩
   rcases List.mem_cons.1 hx with rfl|hx
   ·have:=h2.1;split at this <;> omega
   ·exact h2.2 x hx
theorem Ok.lin {G:Gr} (h:Ok G):Lin G.ns.length G.rs:=fun x hx=>(zef _ _ h.tp).2 x.l (List.mem_map_of_mem hx)
theorem rule_in {G:Gr} {x:Rl} (h:rule G x=true):x.r.length≤6∧-1≤x.p∧x.p<G.ts.length∧∀z∈x.r,z<G.ts.length∧-1-z<G.ns.length∧(0≤z→x.p ≠ -1):=by
 unfold rule at h
 simp only[Bool.and_eq_true,decide_eq_true_eq,List.all_eq_true]at h
 obtain⟨⟨⟨h1,h2⟩,h3⟩,h4⟩:=h
 refine⟨h1,h2,h3,fun z hz=>?_⟩
 have h5:=h4 z hz
 unfold has at h5
 by_cases h0:0≤z
 ·rw[if_pos h0]at h5
  simp[h0]at h5
  exact⟨h5.1,by omega,fun _=>h5.2⟩
 ·rw[if_neg h0]at h5
  simp[h0]at h5
  exact⟨by omega,h5,fun h=>absurd h h0⟩
theorem Ok.sin {G:Gr} (h:Ok G):∀x∈G.rs,Sin G.ns.length x.r:=fun x hx z hz _=>((rule_in (h.rr x hx)).2.2.2 z hz).2.1
end Gm
namespace Gm
def pos (o:List Int) (l:Int):Int:=if l∈o then(o.idxOf l:Int) else -1
noncomputable def use (G:Gr) (x:Rl):Bool:=tr (Rc G x.l∧Al true G.rs x.r)
noncomputable def kept (G:Gr):List Nat:=(List.range G.rs.length).filter fun i=>(G.rs[i]?).any (use G)
end Gm
namespace Gm
abbrev Nu (G:Gr) (r:List Int):Prop:=Al false G.rs r
inductive Fs (G:Gr) (t:Int):Int→Prop
 | tm (x:Rl) (hx:x∈G.rs) (p q:List Int) (e:x.r=p++t::q) (h0:0≤t) (hp:Nu G p):Fs G t x.l
 | nt (x:Rl) (hx:x∈G.rs) (p:List Int) (z:Int) (q:List Int) (e:x.r=p++z::q) (hz:z<0) (hp:Nu G p) (h:Fs G t (-1-z)):Fs G t x.l
def Bg (G:Gr) (t:Int) (r:List Int):Prop:=∃p y q,r=p++y::q∧Nu G p∧(y=t∧0≤t∨y<0∧Fs G t (-1-y))
theorem Fs.of {G:Gr} {t:Int} {x:Rl} (hx:x∈G.rs) (h:Bg G t x.r):Fs G t x.l:=by
 obtain⟨p,y,q,e,hp,h|h⟩:=h
 ·exact .tm x hx p q (by rw[e,h.1]) h.2 hp
 ·exact .nt x hx p y q e h.1 hp h.2
inductive Fw (G:Gr) (t:Int):Int→Prop
 | st (e:t=G.ts.length):Fw G t G.st
 | bg (x:Rl) (hx:x∈G.rs) (p:List Int) (z:Int) (q:List Int) (e:x.r=p++z::q) (hz:z<0) (h:Bg G t q):Fw G t (-1-z)
 | on (x:Rl) (hx:x∈G.rs) (p:List Int) (z:Int) (q:List Int) (e:x.r=p++z::q) (hz:z<0) (hq:Nu G q) (h:Fw G t x.l):Fw G t (-1-z)
def zhB (P:Int→Prop) (is:List Bool):Prop:=∀i:Nat,is.getD i false=true→P (i:Int)
theorem zhB.none (P:Int→Prop) (n:Nat):zhB P (List.replicate n false):=fun i h=>by
 rw[List.getD_eq_getElem?_getD,List.getElem?_replicate]at h
 split at h <;> cases h
end Gm
namespace Gm
def St (G:Gr) (i j:Int):Prop:=∃x∈G.rs,x.l=i∧Al true G.rs x.r∧∃p z q,x.r=p++z::q∧z<0∧j = -1-z∧Nu G p∧Nu G q
inductive Cm (G:Gr):Int→Int→Prop
 | one {i j:Int} (h:St G i j):Cm G i j
 | on {i k j:Int} (h:St G i k) (h2:Cm G k j):Cm G i j
theorem Cm.trans {G:Gr} {i k j:Int} (h:Cm G i k) (h2:Cm G k j):Cm G i j:=by
 induction h with
 | one h=>exact .on h h2
 | on h _ ih=>exact .on h (ih h2)
theorem St.lin {G:Gr} {n:Nat} (hl:Lin n G.rs) (hi:∀x∈G.rs,Sin n x.r) {i j:Int} (h:St G i j):(0≤i∧i<n)∧0≤j∧j<n:=by
 obtain⟨x,hx,rfl,_,p,z,q,e,hz,rfl,_⟩:=h
 have:=hi x hx z (by rw[e];simp) hz
 exact⟨hl x hx,by omega,this⟩
theorem Cm.lin {G:Gr} {n:Nat} (hl:Lin n G.rs) (hi:∀x∈G.rs,Sin n x.r) {i j:Int} (h:Cm G i j):(0≤i∧i<n)∧0≤j∧j<n:=by
 induction h with
 | one h=>exact h.lin hl hi
 | on h _ ih=>exact⟨(h.lin hl hi).1,ih.2⟩
end Gm
namespace Gm
def subN (a there:Nat):Bool:=a ||| there==there
def next (us:Nat) (st:List Nat) (there i:Nat):Bool:=us.testBit i && !there.testBit i&&subN (st.getD i 0) there
end Gm
end Go.Proofs.Ytcgclkndkahgaaa
namespace Go.Proofs.Ytcgclkndkahgaaa
set_option maxRecDepth 100000
set_option maxHeartbeats 40000000
open Go.RowKit
theorem zdr (g o j:Nat):((⟨g,o,none⟩:Addr).add j)=⟨g,o+j,none⟩:=by unfold Addr.add;by_cases h0:j=0 <;> simp[h0]
def RdT (L:List Int) (w:World) (B:Nat) (A:Option Addr) (ts:List Tok):Prop :=
 ts.length≠0→∃g o,A=some ⟨g,o,none⟩∧g<B∧∀i j u,(hi:i<ts.length)→(zaz L ts[i])[j]?=some u→w.cell? ⟨g,o+(i*3+j),none⟩=some u
theorem RdT.nil (L:List Int) (w:World) (B:Nat) (A:Option Addr):RdT L w B A []:=fun h=>absurd rfl h
theorem RdT.keep {L:List Int} {w w':World} {B:Nat} {A:Option Addr} {ts:List Tok} (h:RdT L w B A ts) (hk:∀g o,g<B→w'.cell? ⟨g,o,none⟩=w.cell? ⟨g,o,none⟩):RdT L w' B A ts:=fun hn=>by
 obtain⟨g,o,e,hg,hc⟩:=h hn
 exact⟨g,o,e,hg,fun i j u hi hu=>(hk _ _ hg).trans (hc i j u hi hu)⟩
theorem RdT.more {L:List Int} {w:World} {B B':Nat} {A:Option Addr} {ts:List Tok} (h:RdT L w B A ts) (hB:B≤B'):RdT L w B' A ts:=fun hn=>by
 obtain⟨g,o,e,hg,hc⟩:=h hn
 exact⟨g,o,e,by omega,hc⟩
theorem RdT.grown {L:List Int} {w w':World} {B:Nat} {A:Option Addr} {ts:List Tok} {row:Option Nat} (h:RdT L w B A ts) (hg:w.grownBy w' row) (hr:∀k,row=some k→B≤k) (hs:B≤w.heap.size):RdT L w' B A ts :=
 h.keep fun p o hp=>World.cell?_of_block (hg.block p (by omega) (fun e=>by have:=hr p e.symm;omega))
theorem RdT.below {L:List Int} {w w':World} {B B':Nat} {A:Option Addr} {ts:List Tok} (h:RdT L w B A ts) (hb:Below B' w w') (hB:B≤B'):RdT L w' B A ts :=
 h.keep fun g o hg=>hb.cell (p:=⟨g,o,none⟩) (Nat.lt_of_lt_of_le hg hB)
theorem aZ.rd {L:List Int} {w:World} {base:Nat} {v:Value} {xs:List Tok} (h:aZ L w base v xs):∃A c,v=.slice A xs.length c∧xs.length≤c∧c≤maxLen∧RdT L w w.heap.size A xs:=by
 obtain⟨A,c,rfl,h1,h2⟩:=h.form
 refine⟨A,c,rfl,h1,h2,fun h0=>?_⟩
 obtain⟨g,c',e,_,_,_,hg,hcell⟩:=h.addr h0
 injection e with e1 e2 e3
 refine⟨g,0,e1,hg,fun i j u hi hu=>?_⟩
 have hj:j<3:=by
  have:=(List.getElem?_eq_some_iff.1 hu).1
  simpa[zaz] using this
 rw[Nat.zero_add]
 exact hcell i j u hi hj (by rw[List.getElem?_eq_getElem hi];exact hu)
def zeJ (A:Option Addr) (c:Nat):Option Addr:=if c=1 then A else A.map fun x=>x.add 3
theorem RdT.tail {L:List Int} {w:World} {B c:Nat} {A:Option Addr} {t:Tok} {ts:List Tok} (h:RdT L w B A (t::ts)) (hc:(t::ts).length≤c):RdT L w B (zeJ A c) ts:=by
 intro hn
 obtain⟨g,o,rfl,hg,hcl⟩:=h (by simp)
 refine⟨g,o+3,?_,hg,fun i j u hi hu=>?_⟩
 ·unfold zeJ
  rw[if_neg (by simp at hc;omega),Option.map_some,zdr]
 ·have:=hcl (i+1) j u (by simp;omega) (by simpa using hu)
  rwa [show o+3+(i*3+j)=o+((i+1)*3+j) by omega]
def aM (L:List Int) (x:Tok):List Value:=[.string (K.str x.t),.complex .f64 (Fl.fl (Pl.pos (L.take x.o)).1) (Fl.fl (Pl.pos (L.take x.o)).2)]
theorem zb0 (L:List Int) (xs:List Tok):(xs.flatMap (aM L)).length=xs.length*2:=by
 induction xs with
 | nil=>rfl
 | cons x r ih=>simp[List.flatMap_cons,ih,aM];omega
theorem zeD (L:List Int) (xs:List Tok) (i j:Nat) (hi:i<xs.length) (hj:j<2):(xs.flatMap (aM L))[i*2+j]?=(aM L xs[i])[j]?:=by
 induction xs generalizing i with
 | nil=>simp at hi
 | cons x r ih =>
  rw[List.flatMap_cons]
  have hl:(aM L x).length=2:=rfl
  cases i with
  | zero=>rw[List.getElem?_append_left (by omega)];simp
  | succ i =>
   rw[List.getElem?_append_right (by omega),hl,show(i+1)*2+j-2=i*2+j by omega]
   simpa using ih i (by simpa using hi)
def RdR (L:List Int) (w:World) (B:Nat) (A:Option Addr) (xs:List Tok):Prop :=
 xs.length≠0→∃(g:Nat) (cur:Array Value),A=some ⟨g,0,none⟩∧B≤g∧w.heap[g]?=some (.cells cur 77 (0,0))∧∀(j:Nat) (u:Value),(xs.flatMap (aM L))[j]?=some u→cur[j]?=some u
theorem RdR.nil (L:List Int) (w:World) (B:Nat) (A:Option Addr):RdR L w B A []:=fun h=>absurd rfl h
def aO (w:World) (row:Option Nat):Prop:=∀k,row=some k→∀cur,w.heap[k]? ≠ some (.cells cur 77 (0,0))
theorem aO.none (w:World):aO w .none:=fun _ h=>by cases h
theorem RdR.grown {L:List Int} {w w':World} {B:Nat} {A:Option Addr} {xs:List Tok} {row:Option Nat} (h:RdR L w B A xs) (hg:w.grownBy w' row) (hr:aO w row):RdR L w' B A xs:=fun hn=>by
 obtain⟨g,cur,e,hB,hh,hc⟩:=h hn
 exact⟨g,cur,e,hB,(hg.block g (Array.getElem?_eq_some_iff.1 hh).1 (fun e=>hr g e.symm cur hh)).trans hh,hc⟩
theorem RdR.less {L:List Int} {w:World} {B B':Nat} {A:Option Addr} {xs:List Tok} (h:RdR L w B A xs) (hB:B'≤B):RdR L w B' A xs:=fun hn=>by
 obtain⟨g,cur,e,hb,hh⟩:=h hn
 exact⟨g,cur,e,by omega,hh⟩
theorem RdR.below {L:List Int} {w w':World} {B:Nat} {A:Option Addr} {xs:List Tok} (h:RdR L w B A xs) (hb:Below w.heap.size w w'):RdR L w' B A xs:=h.grown (zae hb .none) (aO.none w)
theorem RdR.cell {L:List Int} {w:World} {B:Nat} {A:Option Addr} {xs:List Tok} (h:RdR L w B A xs) (h0:xs.length≠0):∃g,A=some ⟨g,0,none⟩∧B≤g∧∀i j u,(hi:i<xs.length)→j<2→(aM L xs[i])[j]?=some u→w.cell? ⟨g,i*2+j,none⟩=some u:=by
 obtain⟨g,cur,e,hB,hh,hc⟩:=h h0
 refine⟨g,e,hB,fun i j u hi hj hu=>?_⟩
 rw[cell_of_row w g _ _ _ _ hh]
 exact hc _ _ (by rw[zeD L xs i j hi hj];exact hu)
def aW (L:List Int) (w:World) (base:Nat) (v:Value) (xs:List Tok):Prop:=w.ownsRow base 77 2 v xs.length (xs.flatMap (aM L))
theorem aW.nil (L:List Int) (w:World) (base:Nat):aW L w base (.slice none 0 0) []:=World.ownsRow_nil w base _ _
theorem aW.alloc {L:List Int} {w:World} {base:Nat} {v:Value} {xs:List Tok} (h:aW L w base v xs) (o:Obj):aW L (w.alloc o) base v xs:=World.ownsRow.alloc h o
theorem aW.grown {L:List Int} {w w':World} {base:Nat} {v:Value} {xs:List Tok} {row:Option Nat} (h:aW L w base v xs) (hg:w.grownBy w' row) (hr:aO w row):aW L w' base v xs:=by
 refine⟨h.1,?_⟩
 rcases h.2 with h0|⟨g,cap,cur,e,hb1,hh,hrr⟩
 ·exact .inl h0
 ·exact .inr ⟨g,cap,cur,e,hb1,(hg.block g (Array.getElem?_eq_some_iff.1 hh).1 (fun e=>hr g e.symm cur hh)).trans hh,hrr⟩
theorem aW.below {L:List Int} {w w':World} {base:Nat} {v:Value} {xs:List Tok} (h:aW L w base v xs) (hb:Below w.heap.size w w'):aW L w' base v xs:=h.grown (zae hb .none) (aO.none w)
theorem aW.rd {L:List Int} {w:World} {base:Nat} {v:Value} {xs:List Tok} (h:aW L w base v xs):∃A c,v=.slice A xs.length c∧xs.length≤c∧c≤maxLen∧RdR L w base A xs:=by
 rcases h.2 with⟨rfl,h0⟩|⟨g,cap,cur,rfl,hb,hg,hn,hm,hs,ht⟩
 ·exact⟨none,0,by rw[h0],by omega,by unfold maxLen;omega,fun hc=>absurd h0 hc⟩
 ·refine⟨some ⟨g,0,none⟩,cap,rfl,hn,hm,fun _=>⟨g,cur,rfl,hb,hg,fun j u hu=>?_⟩⟩
  rw[←ht]at hu
  have hj:=(List.getElem?_eq_some_iff.1 hu).1
  rw[List.length_take]at hj
  rw[List.getElem?_take_of_lt (by omega)]at hu
  simpa using hu
theorem zgU:(Try.prog.info? 77).map (fun i=>(i.zero,i.size,i.bytes))=some (some (.agg #[.string ⟨#[]⟩,.complex .f64 0 0]),2,32):=by kernel_rfl
theorem zgw {w:World} {ops:Array Oper} {rest:List Oper} {o:Oper} {a:Act} {Q:Exit→Act→World→Prop}
  (hgd:o.guard=none) (s x:Operand) (t:TypeId) (ho:o.op=.call {callee:=.builtin .append,args:=#[s,x],argTypes:=#[t,t]}) (ht:Try.prog.underlying t=some (.slice 77))
  (L:List Int) (base:Nat) (v:Value) (xs:List Tok) (hs:a.eval s=v) (hown:aW L w base v xs) (g c:Nat) (y:Tok) (hx:a.eval x=.slice (some ⟨g,0,none⟩) 1 c) (hz:∀j u,(aM L y)[j]?=some u→w.cell? ⟨g,j,none⟩=some u)
  (hlen:xs.length≤1000000) (hbase:base≤w.heap.size)
  (hK:∀v' w',aW L w' base v' (xs++[y])→w.grownBy w' v.ownBlock→wpList Try.prog ops Q rest (a.put o.dst v') w') :
  wpList Try.prog ops Q (o::rest) a w:=by
 obtain⟨i,hi,hz0,hz1,hz2⟩:=info_parts zgU
 refine wpList_append_own w hgd s x t ho base 77 i _ 2 32 ht hi hz0 hz1 hz2 rfl (by decide) v xs.length (xs.flatMap (aM L)) hs hown ⟨g,0,none⟩ 1 c (aM L y) hx rfl ?_ ?_ (by unfold maxLen;omega) (by omega) hbase fun v' w' h1 h2 _=>hK v' w' ?_ h2
 ·intro j u hj
  rw[zdr,Nat.zero_add]
  exact hz j u hj
 ·intro u hu;simp[aM]at hu;rcases hu with rfl|rfl <;> rfl
 ·unfold aW
  rw[List.length_append,List.flatMap_append,List.flatMap_singleton];exact h1
theorem _root_.Go.World.grownBy.row {w w':World} (h:w.grownBy w' .none) (row:Option Nat):w.grownBy w' row:=⟨h.os,h.tape,h.output,h.size,fun k hk _=>h.block k hk (by simp)⟩
theorem zaf {a w w':World} {row:Option Nat} {e:TypeId} {size n:Nat} {v:Value} {xs:List Value} (h:a.grownBy w row) (ho:w.ownsRow a.heap.size e size v n xs) (hg:w.grownBy w' v.ownBlock):a.grownBy w' row :=
 ⟨hg.os.trans h.os,hg.tape.trans h.tape,hg.output.trans h.output,Nat.le_trans h.size hg.size,fun k hk hne=>(hg.block k (Nat.lt_of_lt_of_le hk h.size) (fun e=>by have:=(World.ownsRow.lt ho k e.symm).1;omega)).trans (h.block k hk hne)⟩
theorem zeA (L:List Int) (w:World) (t:Tok):∀j u,(aM L t)[j]?=some u→(w.alloc (.cells #[.string (K.str t.t),.complex .f64 (Fl.fl (Pl.pos (L.take t.o)).1) (Fl.fl (Pl.pos (L.take t.o)).2)] 77)).cell? ⟨w.heap.size,j,none⟩=some u:=by
 intro j u hu
 rw[World.cell?_alloc_new]
 simpa[aM] using hu
theorem zcc {w w2:World} {o:Obj} {R:Nat} (h:(w.alloc o).grownBy w2 (some R)) (hR:R<w.heap.size):w2.heap[w.heap.size]?=some o:=by
 rw[h.block w.heap.size (by simp) (fun e=>by injection e with e;omega)]
 exact heap_alloc_new w o
theorem zaG {a w:World} {row:Option Nat} (h:a.grownBy w row) (g i:Nat) (u:Value) (hg:a.heap.size≤g):a.grownBy (w.setCell ⟨g,i,none⟩ u) row :=
 ⟨h.os,h.tape,h.output,by simpa[World.setCell] using h.size,fun k hk hne=>(Below.heap_setCell w ⟨g,i,none⟩ u k (by simp only;omega)).trans (h.block k hk hne)⟩
def zbN (v:Value):Nat:=match v with | .slice _ n _=>n|_=>0
def zgy (L:List Int) (r:Out) (w:World) (e:Ending) (w':World):Prop :=
 match r with
 | .ok xs=>∃v,e=.returned (.tuple #[v,.complex .f64 (Fl.fl (Pl.pos L).1) (Fl.fl (Pl.pos L).2),.int .i64 0])∧aZ L w' w.heap.size v xs∧Below w.heap.size w w'
 | .bad o d=>e=.returned (.tuple #[.slice none 0 0,.complex .f64 (Fl.fl (Pl.pos (L.take o)).1) (Fl.fl (Pl.pos (L.take o)).2),.int .i64 d])∧Below w.heap.size w w'
def aY (L:List Int) (t:Tok):Value:=.agg #[.string (K.str t.t),.complex .f64 (Fl.fl (Pl.pos (L.take t.o)).1) (Fl.fl (Pl.pos (L.take t.o)).2)]
theorem zdV (w:World) (A:Option Addr) (c n:Nat) (hk:1≤n):(Instr.sliceAt 71 (.slice A n c) (some (.int .i64 1)) none none).run Try.prog w=.ok (.slice (zeJ A c) (n-1) (c-1)) w:=by
 rw[run_sliceAt_slice _ _ _ _ _ _ (by kernel_rfl),run_slice_l _ _ _ _ _ (by kernel_rfl) .i64 (1:Int) (by omega) (by omega)]
 have hs:(sizeOf (Try.prog.elem 71)).run Try.prog w=.ok 3 w:=by kernel_rfl
 rw[hs]
 simp[Result.andThen,sliced,zeJ]
theorem zcm (L:List Int) (w:World) (base:Nat) (t:Tok) (hb:base≤w.heap.size):aW L (w.alloc (.cells #[.string (K.str t.t),.complex .f64 (Fl.fl (Pl.pos (L.take t.o)).1) (Fl.fl (Pl.pos (L.take t.o)).2)] 77)) base (.slice (some ⟨w.heap.size,0,none⟩) 1 1) [t] :=
 World.ownsRow_lit w #[.string (K.str t.t),.complex .f64 (Fl.fl (Pl.pos (L.take t.o)).1) (Fl.fl (Pl.pos (L.take t.o)).2)] 1 hb (by unfold maxLen;omega) rfl
theorem zcy {w:World} {o:Oper} {a:Act} {K:Act→World→Prop} {Q:Exit→Act→World→Prop}
  (s x:Operand) (t:TypeId) (ho:o.op=.call {callee:=.builtin .append,args:=#[s,x],argTypes:=#[t,t]}) (ht:Try.prog.underlying t=some (.slice 77))
  (L:List Int) (base B:Nat) (v:Value) (xs:List Tok) (hs:a.eval s=v) (hown:aW L w base v xs) (A:Option Addr) (m c:Nat) (ys:List Tok) (hx:a.eval x=.slice A m c) (hm:m=ys.length) (hr:RdR L w B A ys)
  (hlen:xs.length+ys.length≤1000000) (hbase:base≤w.heap.size)
  (hK:∀v' w',aW L w' base v' (xs++ys)→w.grownBy w' v.ownBlock→K (a.put o.dst v') w') :
  o.wp Try.prog a w K Q:=by
 obtain⟨i,hi,hz0,hz1,hz2⟩:=info_parts zgU
 subst hm
 rcases A with _|ad
 ·have hz:ys=[]:=by
   rcases Nat.eq_zero_or_pos ys.length with h0|h0
   ·exact List.eq_nil_of_length_eq_zero h0
   ·obtain⟨g,o',h,_⟩:=hr (by omega);cases h
  subst hz
  have hrun:=zai (P:=Try.prog) w base t o.type 77 i 2 ht hi v xs.length _ hown c
  unfold Oper.wp
  simp[execOp,ho,resolve,invoke,builtin,hs,hx,hrun,Result.andThen]
  exact hK v w (by simpa using hown) (World.grownBy.refl _ _)
 ·refine wp_append_own w s x t ho base 77 i _ 2 32 ht hi hz0 hz1 hz2 rfl (by decide) v xs.length (xs.flatMap (aM L)) hs hown ad ys.length c (ys.flatMap (aM L)) hx (zb0 L ys) ?_ ?_ (by unfold maxLen;omega) (by omega) hbase fun v' w' h1 h2 _=>hK v' w' ?_ h2
  ·intro j u hj
   have hjl:j<(ys.flatMap (aM L)).length:=(List.getElem?_eq_some_iff.1 hj).1
   rw[zb0]at hjl
   obtain⟨g,cur,h,_,hh,hc⟩:=hr (by omega)
   replace h:=Option.some.inj h
   subst h
   rw[zdr,Nat.zero_add,cell_of_row w g _ _ _ _ hh]
   exact hc j u hj
  ·intro u hu
   obtain⟨z,_,hz⟩:=List.mem_flatMap.1 hu
   simp[aM]at hz;rcases hz with rfl|rfl <;> rfl
  ·unfold aW
   rw[List.length_append,List.flatMap_append];exact h1
def rfX (L:List Int) (x:Tok):Nat:=Fl.fl (Pl.pos (L.take x.o)).1
def rfY (L:List Int) (x:Tok):Nat:=Fl.fl (Pl.pos (L.take x.o)).2
def zgz (L:List Int) (w:World) (B:Nat) (A:Option Addr) (xs:List Tok):Prop :=
 xs.length≠0→∃g o,A=some ⟨g,o,none⟩∧g<B∧∀i (h:i<xs.length),w.cell? ⟨g,o+i*2,none⟩=some (.string (K.str xs[i].t))∧w.cell? ⟨g,o+i*2+1,none⟩=some (.complex .f64 (rfX L xs[i]) (rfY L xs[i]))
def zgB (L:List Int) (w:World) (B:Nat) (A:Option Addr) (ds:List Y.Dcl):Prop :=
 ds.length≠0→∃g o,A=some ⟨g,o,none⟩∧g<B∧∀i (h:i<ds.length),w.cell? ⟨g,o+i*2,none⟩=some (.int .i64 ds[i].k)∧∃A' c',w.cell? ⟨g,o+i*2+1,none⟩=some (.slice A' ds[i].ns.length c')∧zgz L w B A' ds[i].ns
theorem zgz.keep {L:List Int} {w w':World} {B:Nat} {A:Option Addr} {xs:List Tok} (h:zgz L w B A xs) (hb:Below B w w'):zgz L w' B A xs:=fun hn=>by
 obtain⟨g,o,e,hg,hc⟩:=h hn
 exact⟨g,o,e,hg,fun i hi=>⟨(hb.cell (p:=⟨g,o+i*2,none⟩) hg).trans (hc i hi).1,(hb.cell (p:=⟨g,o+i*2+1,none⟩) hg).trans (hc i hi).2⟩⟩
theorem zgB.keep {L:List Int} {w w':World} {B:Nat} {A:Option Addr} {xs:List Y.Dcl} (h:zgB L w B A xs) (hb:Below B w w'):zgB L w' B A xs:=fun hn=>by
 obtain⟨g,o,e,hg,hc⟩:=h hn
 refine⟨g,o,e,hg,fun i hi=>?_⟩
 obtain⟨h1,A',c',h2,h3⟩:=hc i hi
 exact⟨(hb.cell (p:=⟨g,o+i*2,none⟩) hg).trans h1,A',c',(hb.cell (p:=⟨g,o+i*2+1,none⟩) hg).trans h2,h3.keep hb⟩
theorem zfM {k:Int} {s s':Gm.S1} {x:Tok} (h:Gm.decl1 k s x=.ok s'):s'.lv=s.lv:=by
 unfold Gm.decl1 at h
 split at h
 ·split at h
  ·cases h
  ·injection h with h;subst h;rfl
 ·split at h
  ·split at h
   ·cases h
   ·obtain⟨p,_,h⟩:=Gm.R.bind_eq h
    injection h with h;subst h;rfl
  ·split at h
   ·cases h
   ·obtain⟨p,_,h⟩:=Gm.R.bind_eq h
    injection h with h;subst h;rfl
theorem zdM {k:Int}:∀(xs:List Tok) {s s':Gm.S1},Gm.declN k s xs=.ok s'→s'.lv=s.lv
 | [],s,s',h=>by rw[Gm.declN]at h;injection h with h;subst h;rfl
 | x::r,s,s',h=>by
  rw[Gm.declN]at h
  obtain⟨s1,h1,h2⟩:=Gm.R.bind_eq h
  rw[zdM r h2,zfM h1]
theorem zd8 {s:Gm.S1} {ds:List Y.Dcl} {i:Nat} (h:i<ds.length):Gm.decls s (ds.drop i)=(Gm.declN ds[i].k (Gm.up ds[i].k s) ds[i].ns).bind fun s=>Gm.decls s (ds.drop (i+1)):=by
 rw[List.drop_eq_getElem_cons h,Gm.decls]
end Go.Proofs.Ytcgclkndkahgaaa
