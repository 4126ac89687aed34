/- Part of the proofs over this program: Sort, AuSort, AuClos, AuText, AuSt, AuNum, LkVisit, SetR, FstFn, FstGrow, FstKnown. -/
import Derived.Shelf.SlGeneric
import Derived.Shelf.SlSortCmp.NoneTotal
import Derived.Ground.SlsfProg
import Derived.Ground.NamesProg
import Derived.Test.YtcmhaemaophplaaGreatVK
namespace Go.Proofs
open Go.Shelf
def Tryz.sortIt_ren:Go.Shelf.Ren:=⟨fun|6=>109|15=>146|14=>145|28=>173|29=>174|20=>165|21=>166|22=>167|23=>168|24=>169|25=>170|26=>171|27=>172|46=>185|47=>186|48=>187|49=>188|50=>189|57=>196|n=>n,fun|22=>52|24=>60|25=>180|3=>3|39=>209|0=>0|53=>44|55=>231|4=>4|46=>224|45=>223|50=>57|5=>5|9=>9|66=>233|70=>237|76=>242|77=>243|n=>n,fun|n=>n⟩
theorem Tryz.sortIt:Go.Proofs.SlLaysF0.n6 Tryz.prog Tryz.sortIt_ren:={
 mixed:=by kernel_rfl
 f6:=⟨Tryz.f109.name,by decide,Tryz.func109.trans (congrArg some (by kernel_rfl))⟩
 f14:=⟨Tryz.f145.name,by decide,Tryz.func145.trans (congrArg some (by kernel_rfl))⟩
 f15:=Tryz.func146.trans (congrArg some (by kernel_rfl))
 f20:=⟨Tryz.f165.name,by decide,Tryz.func165.trans (congrArg some (by kernel_rfl))⟩
 f21:=⟨Tryz.f166.name,by decide,Tryz.func166.trans (congrArg some (by kernel_rfl))⟩
 f22:=⟨Tryz.f167.name,by decide,Tryz.func167.trans (congrArg some (by kernel_rfl))⟩
 f23:=⟨Tryz.f168.name,by decide,Tryz.func168.trans (congrArg some (by kernel_rfl))⟩
 f24:=⟨Tryz.f169.name,by decide,Tryz.func169.trans (congrArg some (by kernel_rfl))⟩
 f25:=⟨Tryz.f170.name,by decide,Tryz.func170.trans (congrArg some (by kernel_rfl))⟩
 f26:=⟨Tryz.f171.name,by decide,Tryz.func171.trans (congrArg some (by kernel_rfl))⟩
 f27:=⟨Tryz.f172.name,by decide,Tryz.func172.trans (congrArg some (by kernel_rfl))⟩
 f28:=Tryz.func173.trans (congrArg some (by kernel_rfl))
 f29:=Tryz.func174.trans (congrArg some (by kernel_rfl))
 f46:=⟨Tryz.f185.name,by decide,Tryz.func185.trans (congrArg some (by kernel_rfl))⟩
 f47:=Tryz.func186.trans (congrArg some (by kernel_rfl))
 f48:=Tryz.func187.trans (congrArg some (by kernel_rfl))
 f49:=⟨Tryz.f188.name,by decide,Tryz.func188.trans (congrArg some (by kernel_rfl))⟩
 f50:=⟨Tryz.f189.name,by decide,Tryz.func189.trans (congrArg some (by kernel_rfl))⟩
 f57:=⟨Tryz.f196.name,by decide,Tryz.func196.trans (congrArg some (by kernel_rfl))⟩
 t0:=Tryz.underlying0
 a0:=Tryz.isAgg0
 z0:=Tryz.sizeOf0
 v0:=Tryz.zeroValue0
 t3:=Tryz.underlying3
 a3:=Tryz.isAgg3
 z3:=Tryz.sizeOf3
 v3:=Tryz.zeroValue3
 t4:=Tryz.underlying4
 a4:=Tryz.isAgg4
 z4:=Tryz.sizeOf4
 v4:=Tryz.zeroValue4
 t5:=Tryz.underlying5
 a5:=Tryz.isAgg5
 z5:=Tryz.sizeOf5
 v5:=Tryz.zeroValue5
 t9:=Tryz.underlying9
 a9:=Tryz.isAgg9
 z9:=Tryz.sizeOf9
 v9:=Tryz.zeroValue9
 t22:=Tryz.underlying52
 a22:=Tryz.isAgg52
 z22:=Tryz.sizeOf52
 v22:=Tryz.zeroValue52
 t25:=Tryz.underlying180
 a25:=Tryz.isAgg180
 z25:=Tryz.sizeOf180
 v25:=Tryz.zeroValue180
 t39:=Tryz.underlying209
 a39:=Tryz.isAgg209
 z39:=Tryz.sizeOf209
 v39:=Tryz.zeroValue209
 t45:=Tryz.underlying223
 a45:=Tryz.isAgg223
 z45:=Tryz.sizeOf223
 v45:=Tryz.zeroValue223
 t46:=Tryz.underlying224
 a46:=Tryz.isAgg224
 z46:=Tryz.sizeOf224
 v46:=Tryz.zeroValue224
 t50:=Tryz.underlying57
 a50:=Tryz.isAgg57
 z50:=Tryz.sizeOf57
 v50:=Tryz.zeroValue57
 t53:=Tryz.underlying44
 a53:=Tryz.isAgg44
 z53:=Tryz.sizeOf44
 v53:=Tryz.zeroValue44
 t55:=Tryz.underlying231
 a55:=Tryz.isAgg231
 z55:=Tryz.sizeOf231
 v55:=Tryz.zeroValue231
 t66:=Tryz.underlying233
 a66:=Tryz.isAgg233
 z66:=Tryz.sizeOf233
 v66:=Tryz.zeroValue233
 t70:=Tryz.underlying237
 a70:=Tryz.isAgg237
 z70:=Tryz.sizeOf237
 v70:=Tryz.zeroValue237
 t76:=Tryz.underlying242
 a76:=Tryz.isAgg242
 z76:=Tryz.sizeOf242
 v76:=Tryz.zeroValue242
 t77:=Tryz.underlying243
 a77:=Tryz.isAgg243
 z77:=Tryz.sizeOf243
 v77:=Tryz.zeroValue243}
end Go.Proofs
namespace Go.Proofs.YtcmhaemaophplaaGreat
set_option maxRecDepth 100000
set_option maxHeartbeats 40000000
open Go.RowKit
theorem zkx (a b r:Int) (hr:(if a=0 then b else a)=r) (g:Nat) (w:World) (h0:w.cell? ⟨g,0,none⟩=some (.int .i64 a)) (h1:w.cell? ⟨g,1,none⟩=some (.int .i64 b)) :
  Calls Tryz.prog 147 #[.slice (some ⟨g,0,none⟩) 2 2] w fun e w'=>e=.returned (.int .i64 r)/\w'=w:=by
 by_cases ha:a=0
 ·rw[if_pos ha]at hr;subst ha hr;by_cases hb:b=0
  ·subst hb
   go_enter Tryz.func147,Tryz.ntmps147
   go_wp2;go_loopw [8] (fun vi wr=>∃k:Nat,k<=2/\vi=.int .i64 k/\wr=w) (fun vi _=>2-(intOf vi).toNat)
   case atStart=>exact⟨0,by omega,rfl,by trivial⟩
   case round =>
    obtain⟨k,hk,rfl,rfl⟩:=hrel;by_cases hlt:k<2
    ·have hc:wr.cell? ⟨g,k,none⟩=some (.int .i64 0):=by
      match k,hlt with
      | 0,_=>exact h0
      | 1,_=>exact h1
     clear h0 h1;go_wp2;go_roundw
     case rel=>exact⟨k+1,hlt,by go_num,by trivial⟩
     case measure=>simp[intOf];omega
    ·have:¬(k:Int)<2:=by omega
     go_wp2;go_ret
     exact⟨rfl,rfl⟩
  ·have hq:(b != 0)=true:=by rw[bne_iff_ne];exact hb
   clear hb
   go_enter Tryz.func147,Tryz.ntmps147
   go_wp2;go_loopw [8] (fun vi wr=>∃k:Nat,k<=1/\vi=.int .i64 k/\wr=w) (fun vi _=>2-(intOf vi).toNat)
   case atStart=>exact⟨0,by omega,rfl,by trivial⟩
   case round =>
    obtain⟨k,hk,rfl,rfl⟩:=hrel;by_cases hlt:k=0
    ·subst hlt;clear h1;go_wp2;go_roundw
     case rel=>exact⟨1,by omega,by go_num,by trivial⟩
     case measure=>simp[intOf]
    ·obtain rfl:k=1:=by omega
     clear h0;go_wp2;go_ret
     exact⟨rfl,rfl⟩
 ·rw[if_neg ha]at hr;subst hr;have hq:(a != 0)=true:=by rw[bne_iff_ne];exact ha
  clear h1 ha
  go_enter Tryz.func147,Tryz.ntmps147
  go_wp2;go_loopw [8] (fun vi wr=>vi=.int .i64 0/\wr=w) (fun _ _=>0)
  case atStart=>exact⟨rfl,by trivial⟩
  case round =>
   obtain⟨rfl,rfl⟩:=hrel;go_wp2;go_ret
   exact⟨rfl,rfl⟩
namespace Au
def cmpI (x y:It):Int:=if Lib.compareInt x.1 y.1=0 then Lib.compareInt x.2 y.2 else Lib.compareInt x.1 y.1
theorem cmpI_lt (x y:It):ltOf cmpI x y=lt x y:=by
 unfold ltOf cmpI Lib.compareInt lt;rw[Bool.eq_iff_iff];simp only[decide_eq_true_eq,Bool.or_eq_true,Bool.and_eq_true];split <;> split <;> (try split) <;> (try split) <;> omega
end Au
theorem zew (x y:Au.It) (W:World) :
  Calls Tryz.prog 110 #[itV x,itV y] W fun e w'=>e=.returned (.int .i64 (Au.cmpI x y))/\∃q os',w'=Go.Sort.grow (W.drewN q) os':=by
 have HC1:=aA (fun(w:World)=>Tryz.cmp_Compare_int x.1 y.1 w);have HC2:=aA (fun(w:World)=>Tryz.cmp_Compare_int x.2 y.2 w);have HE:Hid (Au.cmpI x y=if Lib.compareInt x.1 y.1=0 then Lib.compareInt x.2 y.2 else Lib.compareInt x.1 y.1):=aA rfl;obtain⟨wb,hwb⟩:∃z,z=(W.alloc (.cells #[.int .i64 x.1,.int .i64 x.2] 60)).alloc (.cells #[.int .i64 y.1,.int .i64 y.2] 60):=⟨_,rfl⟩
 have HT:Hid (bP 60 60 W #[.int .i64 x.1,.int .i64 x.2] #[.int .i64 y.1,.int .i64 y.2] wb):=aA (by rw[hwb];exact bP.start _ _ _ _ _);have HG:Hid (∃os',wb=Go.Sort.grow W os'):=aA ⟨_,by rw[hwb,Go.Sort.alloc_eq_grow,Go.Sort.alloc_eq_grow,Go.Sort.grow_grow]⟩;have hz:W.heap.size+2<=wb.heap.size:=HT.o.size;have HO:=aA (fun(g:Nat) (w:World)=>zkx (Lib.compareInt x.1 y.1) (Lib.compareInt x.2 y.2) (Au.cmpI x y) HE.o.symm g w);generalize Au.cmpI x y=r at *;generalize Lib.compareInt x.1 y.1=c1 at *;generalize Lib.compareInt x.2 y.2=c2 at *;clear HE
 go_enter Tryz.func110,Tryz.ntmps110
 go_upto_region 1 with fail
 rw[<-hwb];clear hwb;have q0:∀z:Calm.On wb.heap.size wb,z.1.cell? ⟨W.heap.size,0,none⟩=some (.int .i64 x.1):=fun z=>(HT.o.on z.2).c1 0 _ rfl;have q1:∀z:Calm.On wb.heap.size wb,z.1.cell? ⟨W.heap.size,1,none⟩=some (.int .i64 x.2):=fun z=>(HT.o.on z.2).c1 1 _ rfl;have q2:∀z:Calm.On wb.heap.size wb,z.1.cell? ⟨W.heap.size+1,0,none⟩=some (.int .i64 y.1):=fun z=>(HT.o.on z.2).c2 0 _ rfl;have q3:∀z:Calm.On wb.heap.size wb,z.1.cell? ⟨W.heap.size+1,1,none⟩=some (.int .i64 y.2):=fun z=>(HT.o.on z.2).c2 1 _ rfl;have HS0:Hid (∃z:Calm.On wb.heap.size wb,wb.drew=z.1):=aA ⟨⟨wb.drew,aB (Below.refl _ _) 1⟩,rfl⟩;have HS1:Hid (∀o:Obj,∃z:Calm.On wb.heap.size wb,wb.drew.alloc o=z.1):=aA (fun o=>⟨⟨wb.drew.alloc o,(aB (Below.refl _ _) 1).alloc (Nat.le_refl _) o⟩,rfl⟩);refine CalmN.region_tree (fun x=>∃z:Calm.On wb.heap.size wb,x=z.1) (.one [0,1,2,3,5,6,7,8] 4 (.one [] 9 (.one [] 10 (.one [] 11 (.fin [12]))))) (by kernel_rfl) (by kernel_rfl) (fun _ _ d _ _ h=>by cases d <;> exact h) HS0.o ?_;simp only[CalmN.wpT,CalmN.wpSt,CalmN.pickOps,List.getElem?_toArray,List.getElem?_cons_zero,List.getElem?_cons_succ];repeat (go_big_quiet_step (fail))
 refine wpQuiet_nil ?_;have HD:Hid (∃os',wb.drew=Go.Sort.grow (W.drewN 1) os'):=aA (by obtain⟨os',e⟩:=HG.o;exact⟨os',by rw[e];rfl⟩);clear q0 q1 q2 q3 HG;generalize wb.drew=wd at *;intro KK hKK;rw[if_pos (by rfl)];go_wp2_with fail
 refine(HC1.o _).mono ?_;rintro _ wd ⟨rfl,rfl⟩;go_wp2_with fail
 refine hKK _ _ HS0.o _ (fun _ h=>h) HS0.o ?_;clear hKK;refine wpQuiet_nil ?_;intro KK hKK;rw[if_pos (by rfl)];go_wp2_with fail
 refine(HC2.o _).mono ?_;rintro _ wd ⟨rfl,rfl⟩;go_wp2_with fail
 refine hKK _ _ HS0.o _ (fun _ h=>h) HS0.o ?_;clear hKK;refine wpQuiet_nil ?_;intro KK hKK;rw[if_pos (by rfl)];go_wp2_with fail
 refine hKK _ _ (HS1.o _) _ (fun _ h=>h) (HS1.o _) ?_;clear hKK;refine wpQuiet_nil ?_;intro KK hKK;rw[if_pos (by rfl)];have hnew:=heap_alloc_new wd (.cells #[.int .i64 c1,.int .i64 c2] 3);have HO2:=aA (HO.o wd.heap.size _ (cell_of_row _ _ 0 _ _ _ hnew) (cell_of_row _ _ 1 _ _ _ hnew));clear hnew;go_wp2_with fail
 refine HO2.o.mono ?_;rintro _ wz ⟨rfl,hwz⟩;subst hwz;go_wp2_with fail
 refine hKK _ _ (HS1.o _) _ (fun _ h=>h) (HS1.o _) ?_;clear hKK;repeat (go_big_quiet_step (fail))
 refine wpQuiet_nil ?_;obtain⟨os',e⟩:=HD.o;have HF:Hid (∃q os',wd.alloc (.cells #[.int .i64 c1,.int .i64 c2] 3)=Go.Sort.grow (W.drewN q) os'):=aA ⟨1,_,by rw[Go.Sort.alloc_eq_grow,e,Go.Sort.grow_grow]⟩;clear e;go_wp2;go_ret
 exact⟨rfl,HF.o⟩
theorem zfe (ts:List Au.It):Go.Sort.flatK prF 2 ts.toArray=(ts.flatMap prF).toArray:=by
 refine Go.Sort.ext_get! (by simp[zje aN]) fun t ht=>?_;rw[Go.Sort.size_flatK]at ht;rw[Go.Sort.get_flatK _ _ _ _ ht];have hts:t / 2<ts.length:=by simpa[Nat.div_lt_iff_lt_mul] using ht
 have h:=qat aN ts (t / 2) (t % 2) hts (Nat.mod_lt _ (by decide));rw[show t / 2*2+t % 2=t by omega]at h;have e1:ts.toArray[t / 2]! = ts[t / 2]:=by simp[hts]
 rw[e1];have hl:t<(ts.flatMap prF).length:=by rw[zje aN];omega
 have hm:t % 2<(prF ts[t / 2]).length:=by rw[aN];omega
 rw[List.getElem?_eq_getElem hl,List.getElem?_eq_getElem hm]at h;injection h with h;rw[getElem!_pos (prF ts[t / 2]) (t % 2) hm,getElem!_pos (ts.flatMap prF).toArray t (by simpa using hl)]
 simpa using h.symm
theorem zh7:Go.Sort.SWO (ltOf Au.cmpI) where
 irrefl x:=by rw[Au.cmpI_lt];exact Au.lt_irr x
 trans x y z h1 h2:=by rw[Au.cmpI_lt]at *;exact Au.lt_trans h1 h2
 ntrans x y z h1 h2:=by
  rw[Au.cmpI_lt]at *;cases h:Au.lt x z
  ·rfl
  ·have a:¬Au.lt x y=true:=by rw[h1];decide
   have b:¬Au.lt y z=true:=by rw[h2];decide
   rw[Au.lt_iff]at h a b;omega
def Au.srt (xs:List Au.It):List Au.It:=xs.mergeSort fun x y=>!Au.lt y x
theorem Au.srt_ok {xs:List Au.It} (h:xs.Nodup):Au.Srt (Au.srt xs)/\∀x,x∈Au.srt xs↔x∈xs:=by
 have hp:(Au.srt xs).Perm xs:=List.mergeSort_perm _ _;refine⟨Au.srt_of h hp ?_,fun x=>hp.mem_iff⟩
 have hs:=List.pairwise_mergeSort (le:=fun x y=>!Au.lt y x) (fun a b c h1 h2=>by
  simp only[Bool.not_eq_true']at *;have a1:¬Au.lt b a=true:=by rw[h1];decide
  have b1:¬Au.lt c b=true:=by rw[h2];decide
  cases q:Au.lt c a
  ·rfl
  ·rw[Au.lt_iff]at q a1 b1
   omega) (fun a b=>by
  cases q:Au.lt b a
  ·rfl
  ·have:Au.lt a b=false:=by
    cases k:Au.lt a b
    ·rfl
    ·rw[Au.lt_iff]at q k;omega
   rw[this];rfl) xs
 exact hs.imp fun {a b} h=>by simpa using h
theorem zfJ {w:World} {base g cap:Nat} {xs ts:List Au.It} (h:aQ 60 2 prF w base (.slice (some ⟨g,0,none⟩) xs.length cap) xs) (hl:ts.length=xs.length) (n:Nat) (os:Array Obj) :
  aQ 60 2 prF (sortWorldK prF 2 w g 0 n ts.toArray os) base (.slice (some ⟨g,0,none⟩) xs.length cap) ts/\w.grownBy (sortWorldK prF 2 w g 0 n ts.toArray os) (some g):=by
 have hF:(ts.flatMap prF).length=xs.length*2:=by rw[zje aN,hl]
 rcases h.2 with⟨e,h0⟩|⟨g',cap',cur,e,hb,hg,hn,hm,hs,ht⟩
 ·cases e
 ·injection e with e1 e2 e3;injection e1 with e1;injection e1 with e1;subst e1 e3;unfold sortWorldK Go.Sort.putRowK aQ;rw[zfe];have hq:(ts.flatMap prF).length=ts.length*2:=zje aN ts;generalize ts.flatMap prF=F at *;have hgs:g<w.heap.size:=(Array.getElem?_eq_some_iff.1 hg).1;refine⟨?_,⟨rfl,rfl,rfl,by simp,fun k hk hne=>?_⟩⟩
  ·refine⟨hq,.inr ⟨g,cap,Go.Sort.putCells id 0 F.toArray cur,by rw[hl],hb,?_,by omega,hm,by simp[Go.Sort.putCells,hs],?_⟩⟩
   ·rw[Go.Sort.heap_grow_old _ _ (by simpa using hgs)];simp[Go.Sort.putRow,Go.Sort.mapBlock,Go.Sort.ahead,Array.getElem?_modify,hg,Go.Sort.onCells]
   ·rw[hl,<-hF];have hle:F.length<=cur.size:=by rw[hF,hs];exact Nat.mul_le_mul_right 2 hn
    apply List.ext_getElem?;intro j;by_cases hj:j<F.length
    ·rw[List.getElem?_take_of_lt hj,Array.getElem?_toList];simp[Go.Sort.putCells,hj,show j<cur.size by omega]
    ·rw[List.getElem?_take_eq_none (by omega),List.getElem?_eq_none (by omega)]
  ·rw[Go.Sort.heap_grow_old _ _ (by simpa using hk)]
   have:g≠k:=fun e=>hne (by rw[e])
   simp[Go.Sort.putRow,Go.Sort.mapBlock,Go.Sort.ahead,Array.getElem?_modify,this]
theorem zhq {w:World} {base g cap:Nat} {xs:List Au.It} (h:aQ 60 2 prF w base (.slice (some ⟨g,0,none⟩) xs.length cap) xs):Go.Sort.HoldsK prF 2 w g 0 xs.toArray:=by
 rcases h.2 with⟨e,h0⟩|⟨g',cap',cur,e,hb,hg,hn,hm,hs,ht⟩
 ·cases e
 ·injection e with e1 e2 e3;injection e1 with e1;injection e1 with e1;subst e1 e3;unfold Go.Sort.HoldsK;rw[zfe];intro j hj;have hj:j<(xs.flatMap prF).length:=by simpa using hj
  have hj2:j<xs.length*2:=by rw[<-zje aN];exact hj
  refine⟨?_,frozen_of_row w g _ _ _ hg⟩;rw[Nat.zero_add,cell_of_row w g j _ _ _ hg];have h2:(cur.toList.take (xs.length*2))[j]?=(xs.flatMap prF)[j]?:=by rw[ht]
  rw[List.getElem?_take_of_lt hj2,Array.getElem?_toList]at h2;rw[h2,getElem!_pos (xs.flatMap prF).toArray j (by simpa using hj),List.getElem?_eq_getElem hj];simp
theorem zhW {w:World} {base:Nat} {v:Value} {xs:List Au.It} (h:aQ 60 2 prF w base v xs) (hl:xs.length<=1000000) :
  Calls Tryz.prog 109 #[v,.func (Fn.func 110) #[] #[]] w fun e w'=>e=.returned (.tuple #[])/\aQ 60 2 prF w' base v (Au.srt xs)/\w.grownBy w' v.ownBlock:=by
 have hsl:(Au.srt xs).length=xs.length:=List.length_mergeSort _;rcases Nat.eq_zero_or_pos xs.length with h0|h0
 ·have hx:xs=[]:=List.eq_nil_of_length_eq_zero h0;subst hx;obtain⟨A,c,rfl,_⟩:=aQ.form h aN;refine(AnyF.slices_SortFunc_none Tryz.sortIt A c _ w).mono ?_;rintro e w' ⟨rfl,rfl⟩;exact⟨rfl,by rw[show Au.srt []=[] by simp[Au.srt]];exact h,World.grownBy.refl _ _⟩
 ·obtain⟨g,c,rfl,hlc,_,hbg⟩:=aQ.addr h (by omega);have eg:∀args w,(callFunc 110 args).run Tryz.prog w=.ok (.enter 110 args) w:=enters_of Tryz.func110 (by kernel_rfl) rfl
  have hcon:=AnyQ.slices_SortFunc_total Tryz.sortIt 2 (fun _=>by kernel_rfl) (fun _=>by kernel_rfl) prF aN zdF Au.cmpI zh7 110 #[] g 0 c xs.toArray w eg (fun _ _ _ _ x y=>zew x y _) (zhq h) (aQ.lt h) (by simp;omega) (fun x y h1 h2=>by
   rw[Au.cmpI_lt]at h1 h2;exact Classical.byContradiction fun hn=>by rw[Au.lt_or h1 hn]at h2;cases h2)
  have e1:xs.toArray.size=xs.length:=by simp
  rw[e1]at hcon;refine Calls.mono hcon ?_;rintro e w' ⟨rfl,n,os,rfl⟩
  have e2:(xs.toArray.toList.mergeSort fun x y=>!(ltOf Au.cmpI) y x)=Au.srt xs:=by
   unfold Au.srt
   congr 1
   funext x y
   rw[Au.cmpI_lt]
  rw[e2];obtain⟨h1,h2⟩:=zfJ h hsl n os;exact⟨rfl,h1,h2⟩
theorem zgc (v:Value) (G:Gm.Gr) (B:Nat) (l:List Au.It) (A:Option Addr) (c BL:Nat) (w:World) (hg:aT w B v G) (hf:Gm.Fit G) (hok:Gm.Ok G) (hB:B<=w.heap.size) (hl:RdQ 2 prF w BL A l) (hBL:BL<=w.heap.size) (hin:∀x∈l,Gm.In x.1/\Gm.In x.2) (hlen:l.length<=1000) :
  Calls Tryz.prog 72 #[v,.slice A l.length c] w fun e w'=>∃v',e=.returned v'/\aQ 60 2 prF w' w.heap.size v' (Au.clo G (l.filter (Au.isI G)))/\Below w.heap.size w w':=by
 have HG:=aA hg;have HF:=aA hf;have HOK:=aA hok;have HBW:=aA hB;have HL:=aA hl;have HBL:=aA hBL;have HIN:=aA hin;obtain⟨AT,cT,AN,cN,AR,cR,rfl,_⟩:=hg;have hmf:∀(fn:Fn) (first cap:Array Value) (w:World),(Instr.makeFunc fn first cap).run Tryz.prog w=.ok (.func fn first cap) w:=fun _ _ _ _=>rfl;have hmm:=fun t w=>run_makeMap (P:=Tryz.prog) t w;obtain⟨w1,hw1⟩:∃y,y=w.alloc (.cells #[.slice AT G.ts.length cT,.slice AN G.ns.length cN,.slice AR G.rs.length cR,.int .i64 G.st] 26):=⟨_,rfl⟩
 have hs1:w1.heap.size=w.heap.size+1:=by rw[hw1];simp
 have b1:Below w.heap.size w w1:=by rw[hw1];exact(Below.refl _ _).alloc (Nat.le_refl _) _
 have g1:w1.heap[w.heap.size]?=some (.cells #[.slice AT G.ts.length cT,.slice AN G.ns.length cN,.slice AR G.rs.length cR,.int .i64 G.st] 26 (0,0)):=by rw[hw1];exact heap_alloc_new w _
 obtain⟨w2,hw2⟩:∃y,y=w1.alloc (.cells #[.slice none 0 0] 52):=⟨_,rfl⟩
 have hs2:w2.heap.size=w.heap.size+2:=by rw[hw2];simp[hs1]
 have b2:Below w1.heap.size w1 w2:=by rw[hw2];exact(Below.refl _ _).alloc (Nat.le_refl _) _
 have g2:w2.heap[w.heap.size+1]?=some (.cells #[.slice none 0 0] 52 (0,0)):=by rw[hw2,<-hs1];exact heap_alloc_new w1 _
 obtain⟨w3,hw3⟩:∃y,y=w2.alloc (.map #[] 0):=⟨_,rfl⟩
 have hs3:w3.heap.size=w.heap.size+3:=by rw[hw3];simp[hs2]
 have b3:Below w2.heap.size w2 w3:=by rw[hw3];exact(Below.refl _ _).alloc (Nat.le_refl _) _
 have g3:Mw.MapIs itE w3 (w.heap.size+2) []:=by rw[hw3,<-hs2];exact Mw.MapIs.made itE w2
 obtain⟨w4,hw4⟩:∃y,y=w3.alloc (.cells #[.map (some (w.heap.size+2))] 176):=⟨_,rfl⟩
 have b4:Below w3.heap.size w3 w4:=by rw[hw4];exact(Below.refl _ _).alloc (Nat.le_refl _) _
 have g4:w4.heap[w.heap.size+3]?=some (.cells #[.map (some (w.heap.size+2))] 176 (0,0)):=by rw[hw4,<-hs3];exact heap_alloc_new w3 _
 have HB4:Hid (Below w.heap.size w w4):=aA (((b1.trans (b2.mono (by omega))).trans (b3.mono (by omega))).trans (b4.mono (by omega)));have hbx:=aC b4 (aC b3 (aC b2 g1));have HBX:=aA hbx;have HA4:Hid (AdSt w4 w.heap.size (w.heap.size+1) (w.heap.size+3) (w.heap.size+2) (Au.addsX [] ([].filter (Au.isI G)))):=aA ⟨⟨_,aC b4 (aC b3 g2),aQ.nil _ _⟩,g4,⟨[],g3.block (b4.block _ g3.lt),fun x=>by simp[Mw.asc,Au.addsX]⟩,by omega,by omega,by omega⟩;have HZ4:Hid (w.heap.size+4<=w4.heap.size):=aA (by have:=(Array.getElem?_eq_some_iff.1 g4).1;omega);clear hf hok hB hl hBL hin b1 b2 b3 b4 g1 g2 g3 g4 hbx;have hlen2:(l.length:Int)<=1000:=by omega
 go_enter Tryz.func72,Tryz.ntmps72
 go_upto_region 1 with fail
 rw[<-hw1];clear hw1;go_upto_region 2 with fail
 rw[<-hw2];clear hw2;go_upto_region 3 with fail
 rw[<-hw3];rw[<-hw4];clear hw3 hw4 hs1 hs2 hs3 hmm;rw[show w.heap.size+2+1=w.heap.size+3 from rfl];obtain⟨pT,hpT⟩:∃p,p=w.heap.size+3:=⟨_,rfl⟩
 obtain⟨pA,hpA⟩:∃p,p=w.heap.size+1:=⟨_,rfl⟩
 obtain⟨M,hM⟩:∃p,p=w.heap.size+2:=⟨_,rfl⟩
 rw[<-hpT,<-hpA,<-hM]at HA4;rw[<-hpT,<-hpA,<-hM];clear hpT hpA hM;go_wp2;go_loopw [17] (fun vi wr=>∃i:Nat,i<=l.length/\vi=.int .i64 i/\Hid (AdSt wr w.heap.size pA pT M (Au.addsX [] ((l.take i).filter (Au.isI G))))/\Hid (Below w.heap.size w wr)/\Hid (KeepI w4 wr)) (fun vi _=>l.length-(intOf vi).toNat)
 case atStart=>exact⟨0,Nat.zero_le _,rfl,by simpa using HA4,HB4,aA (KeepI.refl _)⟩
 case round =>
  obtain⟨i,hi,rfl,HA,HW,HK⟩:=hrel;by_cases hlt:i<l.length
  ·obtain⟨g,o,rfl,hgB,hc⟩:=HL.o (by omega);have hgw:g<w.heap.size:=Nat.lt_of_lt_of_le hgB HBL.o;have k0:wr.cell? ⟨g,o+i*2,none⟩=some (.int .i64 (l[i]).1):=(HW.o.cell (p:=⟨g,o+i*2,none⟩) hgw).trans (hc i hlt 0 _ rfl);have k1:wr.cell? ⟨g,o+i*2+1,none⟩=some (.int .i64 (l[i]).2):=(HW.o.cell (p:=⟨g,o+i*2+1,none⟩) hgw).trans (hc i hlt 1 _ rfl);have HIx:=aA (HIN.o _ (List.getElem_mem hlt));have HTK:Hid (l.take (i+1)=l.take i++[l[i]]):=aA (List.take_succ_eq_append_getElem hlt)
   have HLN:=aA (show(Au.addsX [] ((l.take i).filter (Au.isI G))).length<=100000 by
    have h1:=Au.addsX_up (xs:=[]) (zs:=(l.take i).filter (Au.isI G));have h2:=List.length_filter_le (Au.isI G) (l.take i);rw[List.length_take]at h2;simp only[List.length_nil]at h1
    omega)
   obtain⟨wi,hwi⟩:∃y,y=wr.alloc (.cells #[.int .i64 (l[i]).1,.int .i64 (l[i]).2] 60):=⟨_,rfl⟩
   have HBI:Hid (Below wr.heap.size wr wi):=aA (by rw[hwi];exact(Below.refl _ _).alloc (Nat.le_refl _) _);have hbi:wi.heap[wr.heap.size]?=some (.cells #[.int .i64 (l[i]).1,.int .i64 (l[i]).2] 60 (0,0)):=by rw[hwi];exact heap_alloc_new wr _
   have HBIX:=aA hbi;have y0:wi.cell? ⟨wr.heap.size,0,none⟩=some (.int .i64 (l[i]).1):=cell_of_row wi _ 0 _ _ _ hbi;have y1:wi.cell? ⟨wr.heap.size,1,none⟩=some (.int .i64 (l[i]).2):=cell_of_row wi _ 1 _ _ _ hbi;have hwr4:w.heap.size<=wr.heap.size:=HW.o.size;have HWI:=aA (HW.o.trans (HBI.o.mono hwr4));have HKI:=aA (HK.o.trans (.below HBI.o));have HAI:=aA (HA.o.below HBI.o);have hgx:=HKI.o.keep _ _ _ _ HBX.o (by decide) (by decide);have z0:wi.cell? ⟨w.heap.size,0,none⟩=some (.slice AT G.ts.length cT):=cell_of_row wi _ 0 _ _ _ hgx;have z1:wi.cell? ⟨w.heap.size,1,none⟩=some (.slice AN G.ns.length cN):=cell_of_row wi _ 1 _ _ _ hgx;have z2:wi.cell? ⟨w.heap.size,2,none⟩=some (.slice AR G.rs.length cR):=cell_of_row wi _ 2 _ _ _ hgx;have z3:wi.cell? ⟨w.heap.size,3,none⟩=some (.int .i64 G.st):=cell_of_row wi _ 3 _ _ _ hgx;have HHA:=aA (zhX _ G B l[i] wi (HG.o.below HWI.o HBW.o) HF.o (Nat.le_trans HBW.o HWI.o.size));clear hc hbi hgx hgw hgB;generalize l[i]=x at *;go_upto_region 7 with fail
   rw[<-hwi];clear hwi k0 k1;cases hI:Au.isI G x
   ·have HE:Hid ((l.take (i+1)).filter (Au.isI G)=(l.take i).filter (Au.isI G)):=aA (by rw[HTK.o,List.filter_append,List.filter_cons,if_neg (by rw[hI];decide)];simp);rw[hI]at HHA;clear hI HTK;go_wp2_with fail
    refine HHA.o.mono ?_;rintro _ w2 ⟨rfl,hb2⟩;have HA2:=aA (HAI.o.below hb2);have HW2:=aA (HWI.o.trans (hb2.mono HWI.o.size));have HK2:=aA (HKI.o.trans (.below hb2));clear hb2 y0 y1 z0 z1 z2 z3;go_wp2;go_roundw
    case rel=>exact⟨i+1,hlt,by go_num,aA (by rw[HE.o];exact HA2.o),HW2,HK2⟩
    case measure=>simp[intOf];omega
   ·have HE:Hid ((l.take (i+1)).filter (Au.isI G)=(l.take i).filter (Au.isI G)++[x]):=aA (by rw[HTK.o,List.filter_append,List.filter_cons,if_pos hI];simp);rw[hI]at HHA;clear hI HTK;go_wp2_with fail
    refine HHA.o.mono ?_;rintro _ w2 ⟨rfl,hb2⟩;have HA2:=aA (HAI.o.below hb2);have HW2:=aA (HWI.o.trans (hb2.mono HWI.o.size));have HK2:=aA (HKI.o.trans (.below hb2));have hb2x:=aC hb2 HBIX.o;have y0:w2.cell? ⟨wr.heap.size,0,none⟩=some (.int .i64 x.1):=cell_of_row w2 _ 0 _ _ _ hb2x;have y1:w2.cell? ⟨wr.heap.size,1,none⟩=some (.int .i64 x.2):=cell_of_row w2 _ 1 _ _ _ hb2x;have HAD:=aA (zfs w2 w.heap.size pA pT M _ x HA2.o HIx.o HLN.o);clear hb2 hb2x z0 z1 z2 z3;go_wp2_with fail
    refine HAD.o.mono ?_;rintro _ w3 ⟨rfl,ha3,hb3,hk3⟩;have HA3:=aA ha3;have HW3:=aA (HW2.o.trans hb3);have HK3:=aA (HK2.o.trans hk3);clear ha3 hb3 hk3 y0 y1;go_wp2;go_roundw
    case rel=>exact⟨i+1,hlt,by go_num,aA (by rw[HE.o,Au.addsX_snoc];exact HA3.o),HW3,HK3⟩
    case measure=>simp[intOf];omega
  ·obtain rfl:i=l.length:=by omega
   rw[List.take_length]at HA;have HLF:Hid (∀x∈l.filter (Au.isI G),Au.isI G x=true):=aA (fun x hx=>(List.mem_filter.1 hx).2);generalize hle:l.filter (Au.isI G)=lf at *;have HLE:=aA hle;clear hle;obtain⟨wo,hwo⟩:∃wo:World,wo=wr:=⟨_,rfl⟩
   subst hwo;clear HIN HL hlen hlen2;have HPC:=aA (Au.PC.start G lf);generalize Au.addsX [] lf=xs0 at *;go_wp2;go_loopw [10] (fun vi wr=>∃(i:Nat) (xs:List Au.It),i<=xs.length/\vi=.int .i64 i/\Hid (Au.PC G lf i xs)/\Hid (AdSt wr w.heap.size pA pT M xs)/\Hid (Below w.heap.size w wr)/\Hid (KeepI w4 wr)) (fun vi _=>300-(intOf vi).toNat)
   case atStart=>exact⟨0,xs0,Nat.zero_le _,rfl,HPC,HA,HW,HK⟩
   case round =>
    obtain⟨i,xs,hi,rfl,HP,HA,HW,HK⟩:=hrel;have hle:xs.length<=287:=Nat.le_trans (HP.o.le HLF.o) (Au.allI_le HOK.o HOK.o.r40);obtain⟨v,h1,h2⟩:=HA.o.v;have H1:=aA h1;have H2:=aA h2;have hwr4:w.heap.size<=wr.heap.size:=HW.o.size;have hgx:=HK.o.keep _ _ _ _ HBX.o (by decide) (by decide);have HGX:=aA hgx;by_cases hlt:i<xs.length
    ·obtain⟨g,c1,rfl,hlc,hmc,_⟩:=aQ.addr h2 (by omega);have cA:wr.cell? ⟨pA,0,none⟩=some (.slice (some ⟨g,0,none⟩) xs.length c1):=cell_of_row wr pA 0 _ _ _ h1;have k0:wr.cell? ⟨g,i*2,none⟩=some (.int .i64 (xs[i]).1):=aQ.cellAt h2 aN i 0 hlt _ rfl;have k1:wr.cell? ⟨g,i*2+1,none⟩=some (.int .i64 (xs[i]).2):=aQ.cellAt h2 aN i 1 hlt _ rfl;have hgl:=aQ.lt h2;have hpl:=(Array.getElem?_eq_some_iff.1 h1).1;have hGl:=(Array.getElem?_eq_some_iff.1 hgx).1;have hltI:(i:Int)<(xs.length:Int):=by omega
     have HNX:Hid (Au.PC G lf (i+1) (Au.addsX xs (Au.addE G xs[i]))):=aA (HP.o.next (List.getElem?_eq_getElem hlt));have HII:Hid (Au.isI G xs[i]=true):=aA (Au.cl_is HLF.o (HP.o.c _ (List.getElem_mem hlt)));have HUP:Hid (xs.length<=(Au.addsX xs (Au.addE G xs[i])).length):=aA Au.addsX_len;have HNE:=aA (fun(y:World) (h:Below wr.heap.size wr y)=>zcL _ G B xs[i] y (HG.o.below (HW.o.trans (h.mono hwr4)) HBW.o) HF.o (Nat.le_trans HBW.o (Nat.le_trans hwr4 h.size)));have HLN:=aA (show xs.length<=50000 by omega);have HX1:Hid (∃m,xs.drop m=[]/\i+1<=xs.reverse.length):=aA ⟨_,List.drop_length,by rw[List.length_reverse];exact hlt⟩;generalize xs[i]=x at *;generalize xs.length=n at *;clear h1 h2 hgx;go_upto_region 13 with fail
     have qA:∀z:Calm.On wr.heap.size wr,z.1.cell? ⟨pA,0,none⟩=some (.slice (some ⟨g,0,none⟩) n c1):=fun z=>(z.2.cell (p:=⟨pA,0,none⟩) hpl).trans cA;have q0:∀z:Calm.On wr.heap.size wr,z.1.cell? ⟨g,i*2,none⟩=some (.int .i64 x.1):=fun z=>(z.2.cell (p:=⟨g,i*2,none⟩) hgl).trans k0;have q1:∀z:Calm.On wr.heap.size wr,z.1.cell? ⟨g,i*2+1,none⟩=some (.int .i64 x.2):=fun z=>(z.2.cell (p:=⟨g,i*2+1,none⟩) hgl).trans k1;have z0:∀z:Calm.On wr.heap.size wr,z.1.cell? ⟨w.heap.size,0,none⟩=some (.slice AT G.ts.length cT):=fun z=>cell_of_row z.1 _ 0 _ _ _ (aC z.2 HGX.o);have z1:∀z:Calm.On wr.heap.size wr,z.1.cell? ⟨w.heap.size,1,none⟩=some (.slice AN G.ns.length cN):=fun z=>cell_of_row z.1 _ 1 _ _ _ (aC z.2 HGX.o);have z2:∀z:Calm.On wr.heap.size wr,z.1.cell? ⟨w.heap.size,2,none⟩=some (.slice AR G.rs.length cR):=fun z=>cell_of_row z.1 _ 2 _ _ _ (aC z.2 HGX.o);have z3:∀z:Calm.On wr.heap.size wr,z.1.cell? ⟨w.heap.size,3,none⟩=some (.int .i64 G.st):=fun z=>cell_of_row z.1 _ 3 _ _ _ (aC z.2 HGX.o);have HS0:Hid (∃z:Calm.On wr.heap.size wr,wr.drew=z.1):=aA ⟨⟨wr.drew,aB (Below.refl _ _) 1⟩,rfl⟩;clear k0 k1 cA;refine CalmN.region_tree (fun x=>∃z:Calm.On wr.heap.size wr,x=z.1) (.one [0,1,2,3,4] 5 (.fin [6,7,8,9,10])) (by kernel_rfl) (by kernel_rfl) (fun _ _ d _ _ h=>by cases d <;> exact h) HS0.o ?_;simp only[CalmN.wpT,CalmN.wpSt,CalmN.pickOps,List.getElem?_toArray,List.getElem?_cons_zero,List.getElem?_cons_succ];repeat (go_big_quiet_step (fail))
     refine wpQuiet_nil ?_;intro KK hKK;rw[if_pos (by rfl)];go_wp2_with fail
     refine(HNE.o wr.drew (aB (Below.refl _ _) 1)).mono ?_;rintro _ w2 ⟨rfl,hb2⟩;have hb2:Below wr.heap.size wr w2:=(aB (Below.refl _ wr) 1).trans hb2;have HS2:Hid (∃z:Calm.On wr.heap.size wr,w2=z.1):=aA ⟨⟨w2,hb2⟩,rfl⟩;have HB2:=aA hb2;have HNP:=aA (Au.nxP_is HII.o);have HA2:=aA (HA.o.below hb2);have HW2:=aA (HW.o.trans (hb2.mono hwr4));have HK2:=aA (HK.o.trans (.below hb2));have HGX2:=aA (aC hb2 HGX.o);clear hb2 qA q0 q1 z0 z1 z2 z3 hpl hgl hGl hwr4;cases hq:Au.nxP G x with
     | none =>
      have hE:=Au.addE_no (G:=G) (x:=x) (fun s hs=>by rw[<-HNP.o,hq]at hs;cases hs);rw[hE]at HNX;have HNX:Hid (Au.PC G lf (i+1) xs):=HNX;clear hE hq;go_wp2_with fail
      refine hKK _ _ HS2.o _ (fun _ h=>h) HS2.o ?_;clear hKK;repeat (go_big_quiet_step (fail))
      refine wpQuiet_nil ?_;go_wp2;go_roundw
      case rel=>exact⟨i+1,xs,by obtain⟨m,e,h⟩:=HX1.o;rw[List.length_reverse]at h;exact h,by go_num,HNX,HA2,HW2,HK2⟩
      case measure=>simp[intOf];omega
     | some s =>
      by_cases h0:s<0
      ·have hE:=Au.addE_beg (HNP.o.symm.trans hq) h0;rw[hE]at HNX HUP;have hsy:=Gm.has_iff.1 (Au.syms_mem.1 (Au.nx_in HOK.o HII.o (HNP.o.symm.trans hq)));have hns:=(Gm.nons_iff G).1 HOK.o.n;have HIS:=aA (fun w=>zcM s w);rw[decide_eq_true h0]at HIS;have HNO:=aA (fun w=>zdi s (by omega) (by omega) w);have HLEN:Hid (i+1<=(Au.addsX xs (Au.begT G (-1-s) G.rs.length)).length):=aA (by obtain⟨m,e,h⟩:=HX1.o;rw[List.length_reverse]at h;exact Nat.le_trans h Au.addsX_len);have HBEG:=aA (zge _ G B (-1-s) w2.drew w.heap.size pA pT M xs (HG.o.below (aB HW2.o 1) HBW.o) HBW.o (Nat.le_trans HOK.o.r40 (by omega)) (HA2.o.below (aB (Below.refl _ _) 1)) (by obtain⟨m,e,h⟩:=HX1.o;rw[List.length_reverse]at h;have:=HP.o.le HLF.o;have:=Au.allI_le HOK.o HOK.o.r40;omega));have z0:∀z:Calm.OnB w.heap.size w2,z.1.cell? ⟨w.heap.size,0,none⟩=some (.slice AT G.ts.length cT):=fun z=>cell_of_row z.1 _ 0 _ _ _ (z.2.trans HGX2.o);have z1:∀z:Calm.OnB w.heap.size w2,z.1.cell? ⟨w.heap.size,1,none⟩=some (.slice AN G.ns.length cN):=fun z=>cell_of_row z.1 _ 1 _ _ _ (z.2.trans HGX2.o);have z2:∀z:Calm.OnB w.heap.size w2,z.1.cell? ⟨w.heap.size,2,none⟩=some (.slice AR G.rs.length cR):=fun z=>cell_of_row z.1 _ 2 _ _ _ (z.2.trans HGX2.o);have z3:∀z:Calm.OnB w.heap.size w2,z.1.cell? ⟨w.heap.size,3,none⟩=some (.int .i64 G.st):=fun z=>cell_of_row z.1 _ 3 _ _ _ (z.2.trans HGX2.o);have HSA:Hid (∃z:Calm.OnB w.heap.size w2,w2.drew=z.1):=aA ⟨⟨w2.drew,rfl⟩,rfl⟩;clear hE hq hsy hns h0;go_wp2_with fail
       refine hKK _ _ HS2.o _ (fun _ h=>h) HS2.o ?_;clear hKK;repeat (go_big_quiet_step (fail))
       refine wpQuiet_nil ?_;go_wp2_with fail
       refine(HIS.o _).mono ?_;rintro _ w3 ⟨rfl,hw3⟩;subst hw3;go_wp2_with fail
       refine CalmN.region_tree (fun x=>∃z:Calm.OnB w.heap.size w3,x=z.1) (.one [0,1,3] 2 (.one [] 4 (.fin []))) (by kernel_rfl) (by kernel_rfl) (fun _ _ d _ _ h=>by cases d <;> exact h) HSA.o ?_;simp only[CalmN.wpT,CalmN.wpSt,CalmN.pickOps,List.getElem?_toArray,List.getElem?_cons_zero,List.getElem?_cons_succ];repeat (go_big_quiet_step (fail))
       refine wpQuiet_nil ?_;clear z0 z1 z2 z3;intro KK hKK;rw[if_pos (by rfl)];go_wp2_with fail
       refine(HNO.o _).mono ?_;rintro _ w4' ⟨rfl,hw4⟩;subst hw4;go_wp2_with fail
       refine hKK _ _ HSA.o _ (fun _ h=>h) HSA.o ?_;clear hKK;refine wpQuiet_nil ?_;intro KK hKK;rw[if_pos (by rfl)];go_wp2_with fail
       refine HBEG.o.mono ?_;rintro _ w5 ⟨rfl,ha5,hb5,hk5⟩;have hb5:Below w.heap.size w3 w5:=(aB (Below.refl _ w3) 1).trans hb5;have hk5:KeepI w3 w5:=(KeepI.below (aB (Below.refl _ w3) 1)).trans hk5;have HA5:=aA ha5;have HW5:=aA (HW2.o.trans hb5);have HK5:=aA (HK2.o.trans hk5);have HSB:Hid (∃z:Calm.OnB w.heap.size w3,w5=z.1):=aA ⟨⟨w5,(hk5.keep _ _ _ _ HGX2.o (by decide) (by decide)).trans HGX2.o.symm⟩,rfl⟩;clear ha5 hb5 hk5;go_wp2_with fail
       refine hKK _ _ HSB.o _ (fun _ h=>h) HSB.o ?_;clear hKK;refine wpQuiet_nil ?_;go_wp2;go_roundw
       case rel=>exact⟨i+1,_,HLEN.o,by go_num,HNX,HA5,HW5,HK5⟩
       case measure=>simp[intOf];omega
      ·have hE:=Au.addE_no (G:=G) (x:=x) (fun s' hs=>by rw[<-HNP.o,hq]at hs;injection hs with hs;omega);rw[hE]at HNX;have HNX:Hid (Au.PC G lf (i+1) xs):=HNX;have HIS:=aA (fun w=>zcM s w);rw[decide_eq_false h0]at HIS;clear hE hq h0;go_wp2_with fail
       refine hKK _ _ HS2.o _ (fun _ h=>h) HS2.o ?_;clear hKK;repeat (go_big_quiet_step (fail))
       refine wpQuiet_nil ?_;go_wp2_with fail
       refine(HIS.o _).mono ?_;rintro _ w3 ⟨rfl,hw3⟩;subst hw3;go_wp2;go_roundw
       case rel=>exact⟨i+1,xs,by obtain⟨m,e,h⟩:=HX1.o;rw[List.length_reverse]at h;exact h,by go_num,HNX,HA2,HW2,HK2⟩
       case measure=>simp[intOf];omega
    ·obtain rfl:i=xs.length:=by omega
     obtain⟨A1,c1,rfl,hlc,hmc,_⟩:=aQ.form h2 aN;have cA:wr.cell? ⟨pA,0,none⟩=some (.slice A1 xs.length c1):=cell_of_row wr pA 0 _ _ _ h1;have HSO:=aA (zhW h2 (by omega));have hD:=HP.o;obtain⟨hs,hm⟩:=Au.srt_ok hD.nd;have HD:=aA (Au.PC.done HLF.o hD hs hm);have HOL:=aA (fun k (e:(Value.slice A1 xs.length c1).ownBlock=some k)=>(World.ownsRow.lt h2 k e).1);generalize xs.length=n at *;clear hD hs hm h1 h2 hgx;go_wp2_with fail
     refine HSO.o.mono ?_;rintro _ w2 ⟨rfl,ho2,hg2⟩;have h3:=aJ H2.o hg2 H1.o fun cur=>aK (by decide);have cA:w2.cell? ⟨pA,0,none⟩=some (.slice A1 n c1):=cell_of_row w2 pA 0 _ _ _ h3;have HO2:=aA ho2;have HW2:=aA (HW.o.grown hg2 hwr4 (fun k e=>HOL.o k e));clear ho2 hg2 h3;go_wp2;go_ret
     exact⟨_,rfl,by rw[HLE.o,<-HD.o];exact HO2.o,HW2.o⟩
theorem zfv (k:List Au.It) (A:Option Addr) (c B:Nat) (w:World) (hk:RdQ 2 prF w B A k) (hB:B<=w.heap.size) (hb:∀z∈Au.txt k,0<=z/\z<=255) (hl:k.length<=1000) :
  Calls Tryz.prog 71 #[.slice A k.length c] w fun e w'=>e=.returned (.string (K.str (Au.txt k)))/\Below w.heap.size w w':=by
 have HK:=aA hk;have HB:=aA hB;have HBY:=aA hb;have hl2:(k.length:Int)<=1000:=by omega
 clear hk hB hb
 go_enter Tryz.func71,Tryz.ntmps71
 go_wp2;go_loopw [3,8] (fun vb vi wr=>∃i:Nat,i<=k.length/\vi=.int .i64 i/\Hid (bJ wr w.heap.size vb (Au.txt (k.take i)))/\Hid (Below w.heap.size w wr)) (fun _ vi _=>k.length-(intOf vi).toNat)
 case atStart=>exact⟨0,Nat.zero_le _,rfl,aA (bJ.nil _ _),aA (Below.refl _ _)⟩
 case round =>
  obtain⟨i,hi,rfl,HO,HW⟩:=hrel;obtain⟨A1,c1,rfl,hlc,hmc,hrd⟩:=bJ.form HO.o;by_cases hlt:i<k.length
  ·obtain⟨g,o,rfl,hgB,hc⟩:=HK.o (by omega);have hgw:g<w.heap.size:=Nat.lt_of_lt_of_le hgB HB.o;have k0:wr.cell? ⟨g,o+i*2,none⟩=some (.int .i64 (k[i]).1):=(HW.o.cell (p:=⟨g,o+i*2,none⟩) hgw).trans (hc i hlt 0 _ rfl);have k1:wr.cell? ⟨g,o+i*2+1,none⟩=some (.int .i64 (k[i]).2):=(HW.o.cell (p:=⟨g,o+i*2+1,none⟩) hgw).trans (hc i hlt 1 _ rfl);have HTK:Hid (Au.txt (k.take (i+1))=Au.txt (k.take i)++[(k[i]).1+1,(k[i]).2]):=aA (by rw[List.take_succ_eq_append_getElem hlt,Au.txt_snoc]);have h1:=HBY.o ((k[i]).1+1) (List.mem_flatMap.2 ⟨k[i],List.getElem_mem hlt,by simp⟩);have h2:=HBY.o (k[i]).2 (List.mem_flatMap.2 ⟨k[i],List.getElem_mem hlt,by simp⟩);have HLT:Hid ((Au.txt (k.take i)).length<=2000):=aA (by rw[Au.txt_len,List.length_take];omega);clear hc hrd;generalize k[i]=x at *;generalize Au.txt (k.take i)=t at *;have hw1:IntKind.i64.wrap (x.1 - -1)=x.1+1:=by rw[IntWalk.i64_in _ (by omega)];omega
   have hw2:IntKind.u8.wrap (x.1+1)=x.1+1:=IntWalk.u8_in _ (by omega);have hw3:IntKind.u8.wrap x.2=x.2:=IntWalk.u8_in _ (by omega);have HO1:=aA ((HO.o.alloc (.cells #[.int .i64 x.1,.int .i64 x.2] 60)).alloc (zdZ [x.1+1,x.2]));have hlb:=(zmQ (wr.alloc (.cells #[.int .i64 x.1,.int .i64 x.2] 60)) [x.1+1,x.2]).1;rw[show(wr.alloc (.cells #[.int .i64 x.1,.int .i64 x.2] 60)).heap.size=wr.heap.size+1 by simp]at hlb;have HLB:=aA hlb;clear hlb;have HW1:Hid (Below w.heap.size w ((wr.alloc (.cells #[.int .i64 x.1,.int .i64 x.2] 60)).alloc (zdZ [x.1+1,x.2]))):=aA ((HW.o.alloc HW.o.size _).alloc (by have:=HW.o.size;simp;omega) _);have HZ:=aA HW.o.size;go_wp2_with (at_builtin;refine zi1 rfl (.tmp 12) (.tmp 20) _ rfl Tryz.underlying65 w.heap.size _ t rfl HO1.o _ 2 2 _ [x.1+1,x.2] rfl rfl HLB.o (by have:=HLT.o;simp;omega) HW1.o.size ?_;intro v2 w2 ho2 hg2)
   have HO2:=aA ho2;have HW2:=aA (HW1.o.grown hg2 HW1.o.size (fun k e=>(World.ownsRow.lt HO1.o k e).1));clear ho2 hg2;go_roundw
   case rel=>exact⟨i+1,hlt,by go_num,aA (by rw[HTK.o];exact HO2.o),HW2⟩
   case measure=>simp[intOf];omega
  ·obtain rfl:i=k.length:=by omega
   rw[List.take_length]at *;have HBB:Hid (K.Bytes (Au.txt k)):=aA (fun z hz=>by have:=HBY.o z hz;omega);have cv:=zbi hrd HBB.o c1;generalize he:Au.txt k=t at *;have HE:=aA he;clear hrd he;go_wp2;go_ret
   exact⟨by rw[HE.o];rfl,HW.o⟩
def zd7 (T:TypeId) (w:World) (base N:Nat) (A:Option Addr) (xs:List (Int×Int)):Prop :=
 xs.length≠0->∃(g:Nat) (cur:Array Value),A=some ⟨g,0,none⟩/\base<=g/\g<N/\w.heap[g]?=some (.cells cur T (0,0))/\∀i (h:i<xs.length) j u,(prF xs[i])[j]?=some u->cur[i*2+j]?=some u
theorem zd7.nil (T:TypeId) (w:World) (base N:Nat) (A:Option Addr):zd7 T w base N A []:=fun h=>absurd rfl h
theorem zd7.keep {T:TypeId} {w w':World} {base N:Nat} {A:Option Addr} {xs:List (Int×Int)} (h:zd7 T w base N A xs) (hk:∀g cur,g<N->w.heap[g]?=some (.cells cur T (0,0))->w'.heap[g]?=some (.cells cur T (0,0))):zd7 T w' base N A xs:=fun hn=>by
 obtain⟨g,cur,e,hb,hN,hh,hc⟩:=h hn;exact⟨g,cur,e,hb,hN,hk g cur hN hh,hc⟩
theorem zd7.more {T:TypeId} {w:World} {base N N':Nat} {A:Option Addr} {xs:List (Int×Int)} (h:zd7 T w base N A xs) (hN:N<=N'):zd7 T w base N' A xs:=fun hn=>by
 obtain⟨g,cur,e,hb,h1,hh⟩:=h hn;exact⟨g,cur,e,hb,by omega,hh⟩
theorem zd7.less {T:TypeId} {w:World} {base base' N:Nat} {A:Option Addr} {xs:List (Int×Int)} (h:zd7 T w base N A xs) (hb:base'<=base):zd7 T w base' N A xs:=fun hn=>by
 obtain⟨g,cur,e,h1,hN,hh⟩:=h hn;exact⟨g,cur,e,by omega,hN,hh⟩
theorem zd7.rd {T:TypeId} {w:World} {base N:Nat} {A:Option Addr} {xs:List (Int×Int)} (h:zd7 T w base N A xs):RdQ 2 prF w N A xs:=fun hn=>by
 obtain⟨g,cur,e,hb,hN,hh,hc⟩:=h hn;refine⟨g,0,e,hN,fun i hi j u hu=>?_⟩;rw[cell_of_row w g _ _ _ _ hh,Nat.zero_add];exact hc i hi j u hu
theorem aQ.rowP {T:TypeId} {w:World} {base n c:Nat} {A:Option Addr} {xs:List (Int×Int)} (h:aQ T 2 prF w base (.slice A n c) xs):zd7 T w base w.heap.size A xs:=fun hn=>by
 rcases h.2 with⟨e,h0⟩|⟨g,cap,cur,e,hb,hg,h1,hm,hs,ht⟩
 ·exact absurd h0 hn
 ·injection e with e1 e2 e3;refine⟨g,cur,e1,hb,(Array.getElem?_eq_some_iff.1 hg).1,hg,fun i hi j u hu=>?_⟩;have hj:j<2:=by rw[<-aN xs[i]];exact(List.getElem?_eq_some_iff.1 hu).1
  have h2:(cur.toList.take (xs.length*2))[i*2+j]?=(xs.flatMap prF)[i*2+j]?:=by rw[ht]
  rw[List.getElem?_take_of_lt (by omega),Array.getElem?_toList,qat aN xs i j hi hj]at h2;rw[h2];exact hu
abbrev QP:=List (Int×Int)×Option Addr×Nat
abbrev QS:=QP×QP
def qpC (q:QP):Value:=.slice q.2.1 q.1.length q.2.2
def stC (q:QS):List Value:=[qpC q.1,qpC q.2]
theorem zaO (q:QS):(stC q).length=2:=rfl
theorem zjR (q:QS):∀u∈stC q,u.oneCell'=true:=fun u hu=>by
 simp[stC]at hu;rcases hu with rfl|rfl <;> rfl
def stOf (q:QS):StT:=(q.1.1,q.2.1)
def zmu (T:TypeId) (w:World) (base N:Nat) (q:QP):Prop:=q.1.length<=q.2.2/\q.2.2<=9223372036854775807/\zd7 T w base N q.2.1 q.1
def zi7 (w:World) (base N NE:Nat) (q:QS):Prop:=zmu 60 w base N q.1/\zmu 91 w base NE q.2
def zbx (w:World) (base N NE:Nat) (v:Value) (qs:List QS):Prop:=aQ 56 2 stC w base v qs/\∀q∈qs,zi7 w base N NE q
theorem zlM:(Tryz.prog.info? 56).map (fun i=>(i.zero,i.size,i.bytes))=some (some (.agg #[.slice none 0 0,.slice none 0 0]),2,48):=by kernel_rfl
theorem zlT:(Tryz.prog.info? 91).map (fun i=>(i.zero,i.size,i.bytes))=some (some (.agg #[.int .i64 0,.int .i64 0]),2,16):=by kernel_rfl
theorem zi7.keep {w w':World} {base N NE:Nat} {q:QS} (h:zi7 w base N NE q) (hk:∀g cur T,((T=60/\g<N)\/(T=91/\g<NE))->w.heap[g]?=some (.cells cur T (0,0))->w'.heap[g]?=some (.cells cur T (0,0))):zi7 w' base N NE q :=
 ⟨⟨h.1.1,h.1.2.1,h.1.2.2.keep fun g cur hg hc=>hk g cur _ (.inl ⟨rfl,hg⟩) hc⟩,⟨h.2.1,h.2.2.1,h.2.2.2.keep fun g cur hg hc=>hk g cur _ (.inr ⟨rfl,hg⟩) hc⟩⟩
theorem zi7.more {w:World} {base N N' NE NE':Nat} {q:QS} (h:zi7 w base N NE q) (hN:N<=N') (hE:NE<=NE'):zi7 w base N' NE' q:=⟨⟨h.1.1,h.1.2.1,h.1.2.2.more hN⟩,⟨h.2.1,h.2.2.1,h.2.2.2.more hE⟩⟩
theorem zbx.nil (w:World) (base N NE:Nat):zbx w base N NE (.slice none 0 0) []:=⟨aQ.nil w base,by simp⟩
theorem zbx.below {w w':World} {base N NE:Nat} {v:Value} {qs:List QS} (h:zbx w base N NE v qs) (hb:Below w.heap.size w w'):zbx w' base N NE v qs :=
 ⟨h.1.below hb (Nat.le_refl _),fun q hq=>(h.2 q hq).keep fun g _ _ _ hc=>(hb.block g (Array.getElem?_eq_some_iff.1 hc).1).trans hc⟩
theorem zbx.rd {w:World} {base N NE n c:Nat} {A:Option Addr} {qs:List QS} (h:zbx w base N NE (.slice A n c) qs) (hN:N<=w.heap.size) (hE:NE<=w.heap.size):zdm w w.heap.size A (qs.map stOf):=fun hn=>by
 have hn:qs.length≠0:=by simpa using hn
 obtain⟨A',c',e,_,_,hrd⟩:=aQ.form h.1 zaO;injection e with e1 e2 e3;subst e1;obtain⟨g,o,e,hg,hc⟩:=hrd hn;refine⟨g,o,e,hg,fun i hi=>?_⟩;have hi':i<qs.length:=by simpa using hi
 have hq:=h.2 _ (List.getElem_mem hi');rw[List.getElem_map];exact⟨⟨_,_,hc i hi' 0 _ rfl,hq.1.1,hq.1.2.1,hq.1.2.2.rd.more hN⟩,⟨_,_,hc i hi' 1 _ rfl,hq.2.1,hq.2.2.1,hq.2.2.2.rd.more hE⟩⟩
theorem zmG (qs:List QS) (i:Nat) (y:QS) (hy:∀h:i<qs.length,y.1=(qs[i]).1):(qs.flatMap stC).set (i*2+1) (qpC y.2)=(qs.set i y).flatMap stC:=by
 induction qs generalizing i with
 | nil=>simp
 | cons x r ih =>
  cases i with
  | zero =>
   have this:y.1=x.1:=hy (by simp);simp[stC,this]
  | succ i =>
   have ih:=ih i fun h=>hy (Nat.succ_lt_succ h);rw[show(i+1)*2+1=(i*2+1)+1+1 by omega];simp only[List.flatMap_cons,stC,List.cons_append,List.nil_append,List.set_cons_succ];rw[ih]
theorem zbx.set1 {w:World} {base N NE g n c:Nat} {qs:List QS} (h:zbx w base N NE (.slice (some ⟨g,0,none⟩) n c) qs) (i:Nat) (y:QS) (hi:i<qs.length) (hy:y.1=(qs[i]).1) (hq:zi7 w base N NE y):zbx (w.setCell ⟨g,i*2+1,none⟩ (qpC y.2)) base N NE (.slice (some ⟨g,0,none⟩) n c) (qs.set i y):=by
 have hk:∀g' cur T,((T=60/\g'<N)\/(T=91/\g'<NE))->w.heap[g']?=some (.cells cur T (0,0))->(w.setCell ⟨g,i*2+1,none⟩ (qpC y.2)).heap[g']?=some (.cells cur T (0,0))   := fun g' cur T hT hc=>by
  refine(Below.heap_setCell w ⟨g,i*2+1,none⟩ _ g' (fun e=>?_)).trans hc;have e:g'=g:=e;subst e;rcases h.1.2 with⟨e,_⟩|⟨g2,cap,cur2,e,hb,hg,_⟩
  ·cases e
  ·injection e with e _ _;injection e with e;injection e with e;subst e;rw[hg]at hc;injection hc with hc;injection hc with _ hc _;rcases hT with⟨rfl,_⟩|⟨rfl,_⟩ <;> exact absurd hc (by decide)
 refine⟨?_,fun q hq'=>?_⟩
 ·rcases h.1.2 with⟨e,_⟩|⟨g2,cap,cur,e,hb,hg,h1,hm,hs,ht⟩
  ·cases e
  ·injection e with e1 e2 e3;injection e1 with e1;injection e1 with e1;subst e1 e3;have hl:(qs.set i y).length=qs.length:=List.length_set;unfold aQ;rw[hl];refine⟨by rw[zje zaO,hl],.inr ⟨g,c,cur.setIfInBounds (i*2+1) (qpC y.2),by rw[e2],hb,heap_setCell_same w g _ _ _ _ hg,h1,hm,by simp[hs],?_⟩⟩;rw[<-zmG qs i y (fun _=>hy),<-ht];simp only[Array.toList_setIfInBounds];rw[List.take_set]
 ·rcases List.mem_or_eq_of_mem_set hq' with q'|q'
  ·exact(h.2 q q').keep hk
  ·rw[q'];exact hq.keep hk
def zft (p:Addr) (w:World):Type:={x:World // x.cell? p=w.cell? p}
instance (p:Addr) (w:World):Nonempty (zft p w):=⟨⟨w,rfl⟩⟩
theorem zaw {P:Program} {w:World} {o:Oper} {a:Act} {Q:Exit->Act->World->Prop} {K:Act->World->Prop}
  (m x:Operand) (t:TypeId) (hop:o.op=Op.mapEntry t m x) {mv xv r:Value} {w':World} (h:(Instr.mapEntry t mv xv).run P w=.ok r w') (hm:a.eval m=mv) (hx:a.eval x=xv)
  (hK:K (a.put o.dst r) w'):o.wp P a w K Q:=by
 unfold Oper.wp;simp[execOp,hop,hm,hx,h,Result.andThen];exact hK
theorem zbw {P:Program} {w:World} {o:Oper} {a:Act} {Q:Exit->Act->World->Prop} {K:Act->World->Prop}
  (m x v:Operand) (t:TypeId) (hop:o.op=Op.entryStore t m x v) {mv xv vv:Value} {w':World} (h:(Instr.entryStore t mv xv vv).run P w=.ok () w') (hm:a.eval m=mv) (hx:a.eval x=xv) (hv:a.eval v=vv)
  (hK:K (a.put o.dst undef) w'):o.wp P a w K Q:=by
 unfold Oper.wp;simp[execOp,hop,hm,hx,hv,h,Result.andThen];exact hK
structure KeepN (R M:Nat) (w w':World):Prop where
 size:w.heap.size<=w'.heap.size
 keep:∀(g:Nat) (o:Obj),w.heap[g]?=some o->g≠R->g≠M->(∀cur fr,o ≠ .cells cur 56 fr)->w'.heap[g]?=some o
section
variable {R M:Nat} {w w' w2:World}
theorem KeepN.refl (R M:Nat) (w:World):KeepN R M w w:=⟨Nat.le_refl _,fun _ _ h _ _ _=>h⟩
theorem KeepN.trans (h:KeepN R M w w') (k:KeepN R M w' w2):KeepN R M w w2:=⟨Nat.le_trans h.size k.size,fun g o h1 h2 h3 h4=>k.keep g o (h.keep g o h1 h2 h3 h4) h2 h3 h4⟩
theorem KeepN.below (h:Below w.heap.size w w'):KeepN R M w w':=⟨h.size,fun g _ h1 _ _ _=>(h.block g (Array.getElem?_eq_some_iff.1 h1).1).trans h1⟩
theorem KeepN.own {base n:Nat} {v:Value} {xs:List Value} (h:w.ownsRow base 56 2 v n xs) (hg:w.grownBy w' v.ownBlock):KeepN R M w w':=⟨hg.size,fun _ _ h1 _ _ h4=>aJ h hg h1 fun cur=>h4 cur _⟩
theorem KeepN.map (hg:w.grownBy w' (some M)):KeepN R M w w':=⟨hg.size,fun g _ h1 _ h3 _=>(hg.block g (Array.getElem?_eq_some_iff.1 h1).1 (fun e=>by injection e with e;exact h3 e)).trans h1⟩
theorem KeepN.set (i:Nat) (u:Value):KeepN R M w (w.setCell ⟨R,i,none⟩ u):=⟨by simp,fun g _ h1 h2 _ _=>(Below.heap_setCell w ⟨R,i,none⟩ u g h2).trans h1⟩
theorem KeepN.setSt {g i:Nat} {cs:Array Value} {fr:Nat×Nat} (h:w.heap[g]?=some (.cells cs 56 fr)) (u:Value):KeepN R M w (w.setCell ⟨g,i,none⟩ u):=⟨by simp,fun g' _ h1 _ _ h4=>(Below.heap_setCell w ⟨g,i,none⟩ u g' (fun e=>by
 have e:g'=g:=e;rw[e,h]at h1;injection h1 with h1;exact h4 _ _ h1.symm)).trans h1⟩
end
def abC (g0 g1 g2 g3 vS:Value) (M:Nat):Array Value:=#[g0,g1,g2,g3,vS,.map (some M)]
def bE (qs:List QS):List (List Au.It):=qs.map fun q=>q.1.1
structure ABd (w:World) (base R M NE:Nat) (g0 g1 g2 g3:Value) (qs:List QS):Prop where
 b:∃vS,w.heap[R]?=some (.cells (abC g0 g1 g2 g3 vS M) 102 (0,0))/\zbx w base w.heap.size NE vS qs
 m:∃l,Mw.MapSt zd4 w M l/\Au.NumOk l (bE qs)
 hR:base<=R
 hM:base<=M
def bV (k:List Au.It) (A:Option Addr) (c:Nat):QS:=((k,A,c),([],none,0))
def zhZ (qs:List QS) (k:List Au.It) (A:Option Addr) (c:Nat):List QS:=if Au.fnd (bE qs) k<0 then qs++[bV k A c] else qs
def ziA (qs:List QS) (k:List Au.It):Int:=if Au.fnd (bE qs) k<0 then(qs.length:Int) else Au.fnd (bE qs) k
section
variable {w w':World} {base R M NE:Nat} {g0 g1 g2 g3:Value} {qs:List QS}
theorem ABd.below (h:ABd w base R M NE g0 g1 g2 g3 qs) (hb:Below w.heap.size w w'):ABd w' base R M NE g0 g1 g2 g3 qs:=by
 obtain⟨⟨vS,h1,h2⟩,⟨l,h3,h4⟩,h5,h6⟩:=h;have h7:=h2.below hb;exact⟨⟨vS,aC hb h1,h7.1,fun q hq=>(h7.2 q hq).more hb.size (Nat.le_refl _)⟩,⟨l,h3.block (hb.block _ h3.lt),h4⟩,h5,h6⟩
theorem ABd.more {NE':Nat} (h:ABd w base R M NE g0 g1 g2 g3 qs) (hE:NE<=NE'):ABd w base R M NE' g0 g1 g2 g3 qs:=by
 obtain⟨⟨vS,h1,h2⟩,h3,h5,h6⟩:=h;exact⟨⟨vS,h1,h2.1,fun q hq=>(h2.2 q hq).more (Nat.le_refl _) hE⟩,h3,h5,h6⟩
theorem ABd.base_le (h:ABd w base R M NE g0 g1 g2 g3 qs):base<=w.heap.size:=by
 obtain⟨⟨vS,h1,_⟩,_,h5,_⟩:=h
 have:=(Array.getElem?_eq_some_iff.1 h1).1
 omega
end
theorem zhn {R M:Nat} {w w':World} (h:KeepN R M w w') {cs:Array Value} (hR:w.heap[R]?=some (.cells cs 102 (0,0))) (hM:∀(cur:Array Value) (T:TypeId),w.heap[M]? ≠ some (.cells cur T (0,0))):∀(g:Nat) (cur:Array Value) (T:TypeId),(T=60\/T=91)->w.heap[g]?=some (.cells cur T (0,0))->w'.heap[g]?=some (.cells cur T (0,0)):=fun g cur T hT hc=>by
 refine h.keep g _ hc (fun e=>?_) (fun e=>hM cur T (by rw[<-e];exact hc)) fun cur' fr e=>?_
 ·rw[e,hR]at hc;injection hc with hc;injection hc with _ hc _;rcases hT with rfl|rfl <;> exact absurd hc (by decide)
 ·injection e with _ e _;rcases hT with rfl|rfl <;> exact absurd e (by decide)
theorem zcg (w:World) (base R M NE:Nat) (g0 g1 g2 g3:Value) (qs:List QS) (k:List Au.It) (A:Option Addr) (c:Nat) (h:ABd w base R M NE g0 g1 g2 g3 qs) (hk:zmu 60 w base w.heap.size (k,A,c)) (hb:∀z∈Au.txt k,0<=z/\z<=255) (hl:k.length<=1000) (hq:qs.length<=100000) :
  Calls Tryz.prog 46 #[.pointer (some ⟨R,0,none⟩),.slice A k.length c] w fun e w'=>e=.returned (.int .i64 (ziA qs k))/\ABd w' base R M NE g0 g1 g2 g3 (zhZ qs k A c)/\Below base w w'/\KeepN R M w w':=by
 have HT:=aA (zfv k A c w.heap.size w hk.2.2.rd (Nat.le_refl _) hb hl);have HBL:=aA h.base_le;have HH:=aA h;have HK:=aA hk;have HQ:=aA hq;have HTX:Hid (K.Tx (Au.txt k)):=aA ⟨fun z hz=>by have:=hb z hz;omega,by rw[Au.txt_len];omega⟩;by_cases hf:Au.fnd (bE qs) k<0
 ·have HF:=aA hf;have HI:Hid (ziA qs k=(qs.length:Int)):=aA (by unfold ziA;rw[if_pos hf]);have HQS:Hid (zhZ qs k A c=qs++[bV k A c]):=aA (by unfold zhZ;rw[if_pos hf]);clear h hk hb hl hf hq;rw[HI.o,HQS.o]
  go_enter Tryz.func46,Tryz.ntmps46
  go_wp2_with fail
  refine HT.o.mono ?_;rintro _ w1 ⟨rfl,hb1⟩;have HB1:=aA hb1;have HH1:=aA (HH.o.below hb1);obtain⟨⟨vS,h1,h2⟩,⟨l,h3,h4⟩,h5,h6⟩:=HH1.o;obtain⟨AS,cq,rfl,hlc,hmc,_⟩:=aQ.form h2.1 zaO;have cM:w1.cell? ⟨R,5,none⟩=some (.map (some M)):=cell_of_row w1 R 5 _ _ _ h1;have cS:w1.cell? ⟨R,4,none⟩=some (.slice AS qs.length cq):=cell_of_row w1 R 4 _ _ _ h1;have hasc:Mw.asc l (Au.txt k)=none:=by rw[h4 k,if_pos HF.o]
  have hkey:zd4.enc (Au.txt k)=.string (K.str (Au.txt k)):=rfl;have lk:=Mw.run_look (E:=zd4) h3.is zkW (t:=100) Tryz.underlying100 (z:=.int .i64 0) (by kernel_rfl) (x:=Au.txt k) HTX.o true;rw[hasc,hkey]at lk;simp at lk;have H1:=aA h1;have H1w:=aA h1;have H2:=aA h2;have H3:=aA h3;have H4:=aA h4;have H5:=aA h5;have H6:=aA h6;have HASC:=aA hasc;have HOL:=aA (fun k (e:(Value.slice AS qs.length cq).ownBlock=some k)=>(World.ownsRow.lt h2.1 k e).1);have HMR:Hid (M≠R):=aA (fun e=>by rw[<-e]at h1;exact h3.is.not_cells h1);have hqI:(qs.length:Int)<=100000:=by have:=HQ.o;omega
  have hRl:=(Array.getElem?_eq_some_iff.1 h1).1;have fR:=frozen_of_row w1 R 4 _ _ h1;clear h1 h2 h3 h4 h5 h6 hb1 hasc;generalize K.str (Au.txt k)=str at *;go_upto_region 5 with fail
  have qM:∀y:zft ⟨R,5,none⟩ w1,y.1.cell? ⟨R,5,none⟩=some (.map (some M)):=fun y=>y.2.trans cM;have HSK:Hid (∀y:World,y.cell? ⟨R,5,none⟩=w1.cell? ⟨R,5,none⟩->∃z:zft ⟨R,5,none⟩ w1,y=z.1):=aA (fun y e=>⟨⟨y,e⟩,rfl⟩);have HSX:=aA (HSK.o w1.drew rfl);clear lk fR hlc hmc;refine CalmN.region_tree (fun x=>∃y:zft ⟨R,5,none⟩ w1,x=y.1) (.two [0,1,2,3,4,5,6,7,8,9,11,12] 10 (.one [] 13 (.one [] 14 (.one [] 15 (.one [16] 17 (.one [18,19] 20 (.fin [])))))) 13 (.one [] 10 (.one [] 14 (.one [] 15 (.one [16] 17 (.one [18,19] 20 (.fin []))))))) (by kernel_rfl) (by kernel_rfl) (fun _ _ d _ _ h=>by cases d <;> exact h) HSX.o ?_;rw[CalmN.wpT];simp only[CalmN.pickOps,List.getElem?_toArray,List.getElem?_cons_zero,List.getElem?_cons_succ];repeat (go_big_quiet_step (fail))
  have HBD:Hid (Below w1.heap.size w1 w1.drew):=aA (aB (Below.refl _ _) 1);have H1:Hid (w1.drew.heap[R]?=some (.cells (abC g0 g1 g2 g3 (.slice AS qs.length cq) M) 102 (0,0))):=H1;have H2D:Hid (aQ 56 2 stC w1.drew base (.slice AS qs.length cq) qs):=aA H2.o.1;have H3D:Hid (Mw.MapSt zd4 w1.drew M l):=aA (H3.o.block rfl);have c4:w1.drew.cell? ⟨R,4,none⟩=some (.slice AS qs.length cq):=cS;have HC5:Hid (w1.cell? ⟨R,5,none⟩=some (.map (some M))):=aA cM;have hRl2:R<w1.drew.heap.size:=hRl;clear qM cS cM;generalize w1.drew=wd at *;have HLA:Hid (Below wd.heap.size wd (wd.alloc (.cells #[.slice A k.length c,.slice none 0 0] 56))):=aA ((Below.refl _ _).alloc (Nat.le_refl _) _);have c4a:(wd.alloc (.cells #[.slice A k.length c,.slice none 0 0] 56)).cell? ⟨R,4,none⟩=some (.slice AS qs.length cq):=cell_of_row _ R 4 _ _ _ (aC HLA.o H1.o);have HS2:=aA (HSK.o (wd.alloc (.cells #[.slice A k.length c,.slice none 0 0] 56)) ((cell_of_row _ R 5 _ _ _ (aC HLA.o H1.o)).trans HC5.o.symm));refine wpQuiet_nil ⟨?_,?_⟩
  case' refine_1 =>
   simp only[CalmN.wpT,CalmN.wpSt,CalmN.pickOps,List.getElem?_toArray,List.getElem?_cons_zero,List.getElem?_cons_succ];intro KK hKK;rw[if_pos (by rfl)];go_wp2_with fail
   refine hKK _ _ HSX.o _ (fun _ h=>h) HSX.o ?_;clear hKK;refine wpQuiet_nil ?_;intro KK hKK;rw[if_pos (by rfl)];go_wp2_with fail
   refine hKK _ _ HS2.o _ (fun _ h=>h) HS2.o ?_;clear hKK;refine wpQuiet_nil ?_
  case' refine_2 =>
   simp only[CalmN.wpT,CalmN.wpSt,CalmN.pickOps,List.getElem?_toArray,List.getElem?_cons_zero,List.getElem?_cons_succ];intro KK hKK;rw[if_pos (by rfl)];go_wp2_with fail
   refine hKK _ _ HS2.o _ (fun _ h=>h) HS2.o ?_;clear hKK;refine wpQuiet_nil ?_;intro KK hKK;rw[if_pos (by rfl)];go_wp2_with fail
   refine hKK _ _ HS2.o _ (fun _ h=>h) HS2.o ?_;clear hKK;refine wpQuiet_nil ?_
  all_goals
   intro KK hKK;rw[if_pos (by rfl)];have HO1:=aA (H2D.o.alloc (.cells #[.slice A k.length c,.slice none 0 0] 56));have b1:=aC HLA.o H1.o;obtain⟨es,ck,hmb,hmr⟩:=H3D.o;have bM:=aC HLA.o hmb;have hnew:=heap_alloc_new wd (.cells #[.slice A k.length c,.slice none 0 0] 56);have HB1a:Hid (Below base w (wd.alloc (.cells #[.slice A k.length c,.slice none 0 0] 56))):=aA (((HB1.o.mono HBL.o).trans (HBD.o.mono (Nat.le_trans HBL.o HB1.o.size))).trans (HLA.o.mono (Nat.le_trans HBL.o (Nat.le_trans HB1.o.size HBD.o.size))));clear c4 c4a;refine zjB (f:=stC) (.tmp 36) (.tmp 39) _ rfl Tryz.underlying49 _ 48 zlM (by decide) (by decide) (by decide) zaO zjR base _ qs rfl HO1.o _ _ (bV k A c) rfl (fun j u hu=>?_) (by have:=HQ.o;omega) (Nat.le_trans HBL.o HB1a.o.size) ?_
   ·refine(cell_of_row _ wd.heap.size j _ _ _ hnew).trans ?_
    match j,hu with
    | 0,hu=>exact hu
    | 1,hu=>exact hu
    | j+2,hu=>simp[stC]at hu
   intro v5 w5 ho5 hg5;obtain⟨A5,c5,rfl,_,_,_⟩:=aQ.form ho5 zaO;have r5:=aJ HO1.o hg5 b1 fun cur=>aK (by decide);have m5:=aJ HO1.o hg5 bM fun cur e=>by cases e
   have HM5:Hid (Mw.MapSt zd4 w5 M l):=aA ⟨es,ck,m5,hmr⟩;have HS5:=aA (HSK.o w5 ((cell_of_row w5 R 5 _ _ _ r5).trans HC5.o.symm));have HB5:Hid (Below base w w5):=aA (HB1a.o.grown hg5 (Nat.le_trans HBL.o HB1a.o.size) (fun k e=>(World.ownsRow.lt HO1.o k e).1));have HK5:Hid (KeepN R M w1 w5):=aA (((KeepN.below HBD.o).trans (.below HLA.o)).trans (.own HO1.o hg5));have HR5:=aA r5;have HO5:=aA ho5;obtain⟨c0,w6,hrun6,hh6,hg6⟩:=Mw.run_entry HM5.o zkW Tryz.underlying100 (z:=.int .i64 0) (by kernel_rfl) HTX.o HASC.o;rw[hkey]at hrun6;obtain⟨w7,hrun7,hm7,hg7⟩:=Mw.run_estore (t:=100) hh6 (.int .i64 (qs.length:Int));have r6:=(hg6.block R (Array.getElem?_eq_some_iff.1 r5).1 (fun e=>by injection e with e;exact HMR.o e.symm)).trans r5;have r7:=(hg7.block R (Array.getElem?_eq_some_iff.1 r6).1 (fun e=>by injection e with e;exact HMR.o e.symm)).trans r6;have HS6:=aA (HSK.o w6 ((cell_of_row w6 R 5 _ _ _ r6).trans HC5.o.symm));have HS7:=aA (HSK.o w7 ((cell_of_row w7 R 5 _ _ _ r7).trans HC5.o.symm));have hbs:=Nat.le_trans HBL.o HB5.o.size;have HB7:Hid (Below base w w7):=aA (zaa (zaa HB5.o hg6 H6.o (Nat.le_trans HBL.o HB5.o.size)) hg7 H6.o (Nat.le_trans (Nat.le_trans HBL.o HB5.o.size) hg6.size));have HRUN6:=aA hrun6;have HRUN7:=aA hrun7;have c47:w7.cell? ⟨R,4,none⟩=some (.slice AS qs.length cq):=cell_of_row w7 R 4 _ _ _ r7;have f47:=frozen_of_row w7 R 4 _ _ r7;have l47:=(Array.getElem?_eq_some_iff.1 r7).1;obtain⟨es6,z6,hmb6,_⟩:=hh6;have hm7':=hm7;obtain⟨es7,ck7,hmb7,_⟩:=hm7;have o6:=World.ownsRow.kept HO5.o hg6 (zaf HO5.o m5 fun cur e=>by cases e);have o7:=World.ownsRow.kept o6 hg7 (zaf o6 hmb6 fun cur e=>by cases e);have o8:aQ 56 2 stC (w7.setCell ⟨R,4,none⟩ (.slice A5 (qs++[bV k A c]).length c5)) base (.slice A5 (qs++[bV k A c]).length c5) (qs++[bV k A c]):=World.ownsRow.kept o7 (aF (World.grownBy.refl _ _) 4 _) (zaf o7 r7 fun cur=>aK (by decide));have HK8:Hid (KeepN R M w1 (w7.setCell ⟨R,4,none⟩ (.slice A5 (qs++[bV k A c]).length c5))):=aA (((HK5.o.trans (.map hg6)).trans (.map hg7)).trans (.set 4 _));have hkr:=zhn HK8.o H1w.o (fun cur T=>H3.o.is.not_cells)
   have HP:Hid (ABd (w7.setCell ⟨R,4,none⟩ (.slice A5 (qs++[bV k A c]).length c5)) base R M NE g0 g1 g2 g3 (qs++[bV k A c])):=aA (by
    refine⟨⟨_,heap_setCell_same w7 R 4 _ _ _ r7,o8,fun q hq=>?_⟩,⟨_,hm7'.block (Below.heap_setCell w7 ⟨R,4,none⟩ _ M HMR.o),?_⟩,H5.o,H6.o⟩
    ·rcases List.mem_append.1 hq with hq|hq
     ·exact((H2.o.2 q hq).keep fun g cur T hT hc=>hkr g cur T (hT.imp (·.1) (·.1)) hc).more HK8.o.size (Nat.le_refl _)
     ·rw[List.mem_singleton.1 hq];exact⟨⟨HK.o.1,HK.o.2.1,((HK.o.2.2.keep fun g cur hg hc=>(HB1.o.block g hg).trans hc).keep fun g cur _ hc=>hkr g cur _ (.inl rfl) hc).more (Nat.le_trans HB1.o.size HK8.o.size)⟩,⟨Nat.zero_le _,Nat.zero_le _,zd7.nil _ _ _ _ _⟩⟩
    ·have:=Au.NumOk.snoc H4.o HF.o
     have e1:(bE qs).length=qs.length:=by unfold bE;rw[List.length_map]
     have e2:bE (qs++[bV k A c])=bE qs++[k]:=by unfold bE;rw[List.map_append];rfl
     rw[e1]at this;rw[e2];exact this)
   have HB8:Hid (Below base w (w7.setCell ⟨R,4,none⟩ (.slice A5 (qs++[bV k A c]).length c5))):=aA (HB7.o.setCell H5.o _);have HKW:Hid (KeepN R M w (w7.setCell ⟨R,4,none⟩ (.slice A5 (qs++[bV k A c]).length c5))):=aA ((KeepN.below HB1.o).trans HK8.o);have HS8:=aA (HSK.o (w7.setCell ⟨R,4,none⟩ (.slice A5 (qs++[bV k A c]).length c5)) ((cell_of_row _ R 5 _ _ _ (heap_setCell_same w7 R 4 _ _ _ r7)).trans HC5.o.symm));clear r5 m5 ho5 hg5 hrun6 hg6 hrun7 hg7 r6 r7 hmb6 hmb7 o6 o7 o8 hkr b1 bM hmb hmr hnew hm7' hbs;generalize (qs++[bV k A c]).length=ln at *;refine hKK _ _ HS5.o _ (fun _ h=>h) HS5.o ?_;clear hKK;refine wpQuiet_nil ?_;intro KK hKK;rw[if_pos (by rfl)];refine zaw _ _ _ rfl HRUN6.o rfl rfl ?_;refine hKK _ _ HS6.o _ (fun _ h=>h) HS6.o ?_;clear hKK
   go_frame
   repeat (go_big_quiet_step (fail))
   refine wpQuiet_nil ?_;intro KK hKK;rw[if_pos (by rfl)];refine zbw _ _ _ _ rfl HRUN7.o rfl rfl rfl ?_;refine hKK _ _ HS7.o _ (fun _ h=>h) HS7.o ?_;clear hKK
   go_frame
   repeat (go_big_quiet_step (fail))
   refine wpQuiet_nil ?_;intro KK hKK;rw[if_pos (by rfl)];go_wp2_with fail
   refine hKK _ _ HS8.o _ (fun _ h=>h) HS8.o ?_;clear hKK c47 f47 l47;refine wpQuiet_nil ?_;go_wp2;go_ret
   exact⟨rfl,HP.o,HB8.o,HKW.o⟩
 ·have HI:Hid (ziA qs k=Au.fnd (bE qs) k):=aA (by unfold ziA;rw[if_neg hf]);have HQS:Hid (zhZ qs k A c=qs):=aA (by unfold zhZ;rw[if_neg hf]);have HF:=aA hf;clear h hk hb hl hf hq;rw[HI.o,HQS.o]
  go_enter Tryz.func46,Tryz.ntmps46
  go_wp2_with fail
  refine HT.o.mono ?_;rintro _ w1 ⟨rfl,hb1⟩;have HB1:=aA hb1;have HH1:=aA (HH.o.below hb1);obtain⟨⟨vS,h1,h2⟩,⟨l,h3,h4⟩,h5,h6⟩:=HH1.o;have cM:w1.cell? ⟨R,5,none⟩=some (.map (some M)):=cell_of_row w1 R 5 _ _ _ h1;have hasc:Mw.asc l (Au.txt k)=some (.int .i64 (Au.fnd (bE qs) k)):=by rw[h4 k,if_neg (by have:=HF.o;omega)]
  have hkey:zd4.enc (Au.txt k)=.string (K.str (Au.txt k)):=rfl;have lk:=Mw.run_look (E:=zd4) h3.is zkW (t:=100) Tryz.underlying100 (z:=.int .i64 0) (by kernel_rfl) (x:=Au.txt k) HTX.o true;rw[hasc,hkey]at lk;simp at lk;clear h1 h2 h3 h4 h5 h6 hb1 hasc;generalize K.str (Au.txt k)=str at *;go_wp2;go_ret
  exact⟨rfl,HH1.o,HB1.o.mono HBL.o,.below HB1.o⟩
end Go.Proofs.YtcmhaemaophplaaGreat
namespace Go.Proofs.YtcmhaemaophplaaGreat
set_option maxRecDepth 100000
set_option maxHeartbeats 40000000
open Go.RowKit
theorem zkh {y:World} {M:Nat} {MM:Lk.MP} (h:Mw.MapIs wkE y M (Lk.encM MM)) (x:Int×Int) (hx:Gm.In x.1/\Gm.In x.2) :
  (Instr.lookup 108 (.map (some M)) (.agg #[.int .i64 x.1,.int .i64 x.2]) false).run Tryz.prog y=.ok (.int .u32 (Lk.gN MM x:Int)) y:=by
 have:=Mw.run_look (E:=wkE) h wkK (t:=108) Tryz.underlying108 (z:=.int .u32 0) (by kernel_rfl) (x:=x) hx false
 rw[Lk.gN_enc]at this;exact this
theorem zmO {y:World} {D:Nat} {DD:Lk.MP} (h:Mw.MapIs enE y D (Lk.encM DD)) (x:Int×Int) (hx:Gm.In x.1/\Gm.In x.2) :
  (Instr.lookup 67 (.map (some D)) (.agg #[.int .i64 x.1,.int .i64 x.2]) false).run Tryz.prog y=.ok (.int .u32 (Lk.gN DD x:Int)) y:=by
 have:=Mw.run_look (E:=enE) h enK (t:=67) Tryz.underlying67 (z:=.int .u32 0) (by kernel_rfl) (x:=x) hx false
 rw[Lk.gN_enc]at this;exact this
theorem Lk.enc_same (MM:Lk.MP) (x:Int×Int):Mw.asc (Mw.putA (Lk.encM MM) x ((Mw.asc (Lk.encM MM) x).getD (.int .u32 0))) x=some (.int .u32 (Lk.gN MM x:Int)):=by
 rw[Lk.gN_enc,Mw.asc_put,if_pos rfl]
theorem zcB (w:World) (base R gc T M D:Nat) (g0 g1 g2 g3 tv:Value) (tl:List ((Int×Int)×Value)) (MM DD:Lk.MP) (st:List (Int×Int)) (x:Int×Int) (more:Nat) (h:WkSt w base R gc T M D g0 g1 g2 g3 tv tl MM DD st) (hx:Gm.In x.1/\Gm.In x.2) (hm:more<4294967296) (hM:Lk.gN MM x<4294967296) (hlen:st.length<=900000) :
  Calls Tryz.prog 77 #[itV x,.int .u32 (more:Int),.pointer (some ⟨R,0,none⟩),.pointer (some ⟨gc,0,none⟩)] w fun e w'=>e=.returned (.tuple #[])/\WkSt w' base R gc T M D g0 g1 g2 g3 tv tl (vM MM x more) DD (vS MM st x more)/\Below base w w'/\KeepG gc M D w w':=by
 obtain⟨wb,hwb⟩:∃y,y=w.alloc (.cells #[.int .i64 x.1,.int .i64 x.2] 112):=⟨_,rfl⟩
 have HBB:Hid (Below w.heap.size w wb):=aA (by rw[hwb];exact(Below.refl _ _).alloc (Nat.le_refl _) _);have hbx:wb.heap[w.heap.size]?=some (.cells #[.int .i64 x.1,.int .i64 x.2] 112 (0,0)):=by rw[hwb];exact heap_alloc_new w _
 have HBX:=aA hbx;have HH:=aA (h.below HBB.o);have HBL:=aA h.base_le;have HGL:=aA h.gcl;have HML:=aA h.m.lt;have HDL:=aA h.d.lt
 have HOL:=aA (show ∀v,w.cell? ⟨gc,0,none⟩=some v->∀k,v.ownBlock=some k->k<w.heap.size from fun v hv k hk=>by
  obtain⟨v',h2,h3⟩:=h.v
  have:=cell_of_row w gc 0 _ _ _ h2
  rw[hv]at this;injection this with this;subst this;exact(World.ownsRow.lt h3 k hk).2)
 have HIN:=aA hx;have HKB:Hid (KeepG gc M D w wb):=aA (.below HBB.o h.gcl);have cM:wb.cell? ⟨R,6,none⟩=some (.map (some M)):=cell_of_row wb R 6 _ _ _ HH.o.r;have x0:wb.cell? ⟨w.heap.size,0,none⟩=some (.int .i64 x.1):=cell_of_row wb _ 0 _ _ _ hbx;have x1:wb.cell? ⟨w.heap.size,1,none⟩=some (.int .i64 x.2):=cell_of_row wb _ 1 _ _ _ hbx;have lk:=zkh HH.o.m.is x hx;have han:=u32_andNot_nat more (Lk.gN MM x) hm hM;by_cases hn:Lk.gN MM x ||| more=Lk.gN MM x
 ·have e1:vM MM x more=MM:=by unfold vM;rw[if_pos hn]
  have e2:vS MM st x more=st:=by unfold vS;rw[if_pos hn]
  have hz:(((more &&& (4294967295-Lk.gN MM x):Nat):Int) != 0)=false:=by rw[(Gm.new_iff hM hm).2 hn];rfl
  rw[e1,e2];clear e1 e2 hn h hx hbx hm hM hlen;generalize Lk.gN MM x=a at *;generalize more &&& (4294967295-a)=d at *
  go_enter Tryz.func77,Tryz.ntmps77
  go_upto_region 1 with fail
  rw[<-hwb];clear hwb;go_wp2;go_end0
  exact⟨rfl,HH.o,HBB.o.mono HBL.o,HKB.o⟩
 ·have e1:vM MM x more=Lk.orN MM x more:=by unfold vM;rw[if_neg hn]
  have e2:vS MM st x more=st++[x]:=by unfold vS;rw[if_neg hn]
  have hz:(((more &&& (4294967295-Lk.gN MM x):Nat):Int) != 0)=true:=by
   have:(more &&& (4294967295-Lk.gN MM x))≠0:=fun e=>hn ((Gm.new_iff hM hm).1 e)
   rw[bne_iff_ne];omega
  have hor:=u32_or_nat (Lk.gN MM x) more hM hm;rw[e1,e2];have HOE:Hid (Mw.putA (Lk.encM MM) x (.int .u32 ((Lk.gN MM x ||| more:Nat):Int))=Lk.encM (Lk.orN MM x more)):=aA Lk.enc_put;have HLEN:=aA hlen
  have HSK:Hid (∀y:World,y.heap[R]?=wb.heap[R]?->y.heap[w.heap.size]?=wb.heap[w.heap.size]?->∃z:OnP [R,w.heap.size] wb,y=z.1):=aA (fun y e1 e2=>⟨⟨y,fun g hg=>by
   rcases List.mem_cons.1 hg with rfl|hg
   ·exact e1
   ·rw[List.mem_singleton.1 hg];exact e2⟩,rfl⟩)
  have hne:=HH.o.gcM;have HRX:Hid (M≠w.heap.size):=aA (by have:=HML.o;omega);have HRM:Hid (R≠M):=aA hne.2.2.2.1;have HGM:Hid (gc≠M):=aA hne.1;have HGD:Hid (gc≠D):=aA hne.2.1;have HZS:Hid (w.heap.size<wb.heap.size):=aA (Array.getElem?_eq_some_iff.1 hbx).1;have HD:Hid (WkSt wb.drew base R gc T M D g0 g1 g2 g3 tv tl MM DD st):=aA (HH.o.below (aB (Below.refl _ _) 1));have lkd:=zkh HD.o.m.is x hx;obtain⟨u,cc,w6,hrun6,hmet,his6,hg6⟩:=Mw.run_met HD.o.m wkK Tryz.underlying108 (z:=.int .u32 0) (by kernel_rfl) (x:=x) hx
  have lk6:(Instr.lookup 108 (.map (some M)) (.agg #[.int .i64 x.1,.int .i64 x.2]) false).run Tryz.prog w6=.ok (.int .u32 (Lk.gN MM x:Int)) w6:=by
   have:=Mw.run_look (E:=wkE) his6 wkK (t:=108) Tryz.underlying108 (z:=.int .u32 0) (by kernel_rfl) (x:=x) hx false
   rw[Lk.enc_same]at this;exact this
  obtain⟨w7,hrun7,hm7,hg7⟩:=hmet.2 w6 rfl (.int .u32 ((Lk.gN MM x ||| more:Nat):Int));have hkey:wkE.enc x=.agg #[.int .i64 x.1,.int .i64 x.2]:=rfl;rw[hkey]at hrun6;rw[HOE.o]at hm7;have HG67:=aA (zac hg6 hg7);have H7:=aA (HD.o.mset HG67.o hm7);have r6:=(hg6.block R (Array.getElem?_eq_some_iff.1 HD.o.r).1 (fun e=>by injection e with e;exact HRM.o e))
  have xb6:=(hg6.block w.heap.size (show w.heap.size<wb.drew.heap.size from HZS.o) (fun e=>by injection e with e;exact HRX.o e.symm))
  have xb7:=(HG67.o.block w.heap.size (show w.heap.size<wb.drew.heap.size from HZS.o) (fun e=>by injection e with e;exact HRX.o e.symm))
  have r7:=(HG67.o.block R (Array.getElem?_eq_some_iff.1 HD.o.r).1 (fun e=>by injection e with e;exact HRM.o e))
  have HSD:=aA (HSK.o wb.drew rfl rfl);have HS6:=aA (HSK.o w6 r6 xb6);have HS7:=aA (HSK.o w7 r7 xb7);have HX7:Hid (w7.heap[w.heap.size]?=some (.cells #[.int .i64 x.1,.int .i64 x.2] 112 (0,0))):=aA (xb7.trans HBX.o);have HRUN6:=aA hrun6;have HRUN7:=aA hrun7;have HLK6:=aA lk6;have HLKD:=aA lkd;have HB7:Hid (Below base w w7):=aA (zaa ((HBB.o.trans (aB (Below.refl _ _) 1)).mono HBL.o) HG67.o h.hM (Nat.le_trans HBL.o HBB.o.size));have HRR:Hid (wb.heap[R]?=some (.cells (wrC g0 g1 g2 g3 tv T M D) 110 (0,0))):=aA HH.o.r;have HGB:Hid (base<=gc):=aA h.hg;have HK7:Hid (KeepG gc M D w w7):=aA ((HKB.o.trans (.below (aB (Below.refl _ _) 1) HH.o.gcl)).trans (.map HG67.o HD.o.gcl HGM.o));clear e1 e2 hn h hx hbx hm hM hlen hne hrun6 hrun7 hmet his6 hg6 hm7 hg7 r6 r7 xb6 xb7 lk6 lkd hkey HOE;generalize Lk.gN MM x=a at *;generalize more &&& (4294967295-a)=d at *;generalize hwd:wb.drew=wd at *
  go_enter Tryz.func77,Tryz.ntmps77
  go_upto_region 1 with fail
  rw[<-hwb];clear hwb;go_upto_region 2 with fail
  have qM:∀y:OnP [R,w.heap.size] wb,y.1.cell? ⟨R,6,none⟩=some (.map (some M)):=fun y=>y.row (by simp) HRR.o rfl;have q0:∀y:OnP [R,w.heap.size] wb,y.1.cell? ⟨w.heap.size,0,none⟩=some (.int .i64 x.1):=fun y=>y.row (by simp) HBX.o rfl;have q1:∀y:OnP [R,w.heap.size] wb,y.1.cell? ⟨w.heap.size,1,none⟩=some (.int .i64 x.2):=fun y=>y.row (by simp) HBX.o rfl;clear x0 x1 cM lk;have S0:∃y:OnP [R,w.heap.size] wb,wb.drew=y.1:=by rw[hwd];exact HSD.o
  refine CalmN.region_tree (fun x=>∃y:OnP [R,w.heap.size] wb,x=y.1) (.two [0,1,2,4] 3 (.one [5] 6 (.one [7] 8 (.fin []))) 6 (.one [7] 3 (.one [5] 8 (.fin [])))) (by kernel_rfl) (by kernel_rfl) (fun _ _ d _ _ h=>by cases d <;> exact h) S0 ?_;rw[CalmN.wpT];simp only[CalmN.pickOps,List.getElem?_toArray,List.getElem?_cons_zero,List.getElem?_cons_succ];repeat (go_big_quiet_step (fail))
  rw[hwd];clear S0;refine wpQuiet_nil ⟨?_,?_⟩
  case' refine_1 =>
   simp only[CalmN.wpT,CalmN.wpSt,CalmN.pickOps,List.getElem?_toArray,List.getElem?_cons_zero,List.getElem?_cons_succ];intro KK hKK;rw[if_pos (by rfl)];have lkd:=HLKD.o;go_wp2_with fail
   refine hKK _ _ HSD.o _ (fun _ h=>h) HSD.o ?_;clear hKK lkd;repeat (go_big_quiet_step (fail))
   refine wpQuiet_nil ?_;intro KK hKK;rw[if_pos (by rfl)];refine zaw _ _ _ rfl HRUN6.o rfl rfl ?_;refine hKK _ _ HS6.o _ (fun _ h=>h) HS6.o ?_;clear hKK
   go_frame
   repeat (go_big_quiet_step (fail))
   refine wpQuiet_nil ?_
  case' refine_2 =>
   simp only[CalmN.wpT,CalmN.wpSt,CalmN.pickOps,List.getElem?_toArray,List.getElem?_cons_zero,List.getElem?_cons_succ];intro KK hKK;rw[if_pos (by rfl)];refine zaw _ _ _ rfl HRUN6.o rfl rfl ?_;refine hKK _ _ HS6.o _ (fun _ h=>h) HS6.o ?_;clear hKK
   go_frame
   repeat (go_big_quiet_step (fail))
   refine wpQuiet_nil ?_;intro KK hKK;rw[if_pos (by rfl)];have lk6:=HLK6.o;go_wp2_with fail
   refine hKK _ _ HS6.o _ (fun _ h=>h) HS6.o ?_;clear hKK lk6;repeat (go_big_quiet_step (fail))
   refine wpQuiet_nil ?_
  all_goals
   intro KK hKK;rw[if_pos (by rfl)];refine zbw _ _ _ _ rfl HRUN7.o rfl rfl rfl ?_;refine hKK _ _ HS7.o _ (fun _ h=>h) HS7.o ?_;clear hKK qM q0 q1
   go_frame
   refine wpQuiet_nil ?_;obtain⟨v,hv1,hv2⟩:=H7.o.v;obtain⟨A,c,rfl,hlc,hmc,_⟩:=aQ.form hv2 aN;have c0:w7.cell? ⟨gc,0,none⟩=some (.slice A st.length c):=cell_of_row w7 gc 0 _ _ _ hv1;have x0:w7.cell? ⟨w.heap.size,0,none⟩=some (.int .i64 x.1):=cell_of_row w7 _ 0 _ _ _ HX7.o;have x1:w7.cell? ⟨w.heap.size,1,none⟩=some (.int .i64 x.2):=cell_of_row w7 _ 1 _ _ _ HX7.o;have HLA:Hid (Below w7.heap.size w7 (w7.alloc (.cells #[.int .i64 x.1,.int .i64 x.2] 112))):=aA ((Below.refl _ _).alloc (Nat.le_refl _) _);have HO1:=aA (hv2.alloc (.cells #[.int .i64 x.1,.int .i64 x.2] 112));have HV1:=aA (aC HLA.o hv1);have HNEW:=aA (heap_alloc_new w7 (.cells #[.int .i64 x.1,.int .i64 x.2] 112));have HBA:Hid (Below base w (w7.alloc (.cells #[.int .i64 x.1,.int .i64 x.2] 112))):=aA (HB7.o.trans (HLA.o.mono (Nat.le_trans HBL.o HB7.o.size)));have HKA:Hid (KeepG gc M D w (w7.alloc (.cells #[.int .i64 x.1,.int .i64 x.2] 112))):=aA (HK7.o.trans (.below HLA.o H7.o.gcl));have HWA:=aA (H7.o.below HLA.o);have HOWN:Hid (bS w7 gc=(Value.slice A st.length c).ownBlock):=aA (zbs c0);clear hv1 hv2 hlc hmc;go_wp2_with (at_builtin;refine zd1 (f:=prF) rfl (.tmp 21) (.tmp 23) _ rfl Tryz.underlying147 _ 16 zlJ (by decide) (by decide) (by decide) aN zdF base _ st rfl HO1.o _ _ x rfl (zh4 x _ _ HNEW.o) (by have:=HLEN.o;omega) (Nat.le_trans HBL.o HBA.o.size) ?_;intro v5 w5 ho5 hg5 hat5;have HK5:=aA (And.intro ho5 (And.intro hg5 hat5));clear ho5 hg5 hat5;have c5:=cell_of_row w5 gc 0 _ _ _ (aJ HO1.o HK5.o.2.1 HV1.o fun cur=>aK (by decide));have f5:=frozen_of_row w5 gc 0 _ _ (aJ HO1.o HK5.o.2.1 HV1.o fun cur=>aK (by decide));have l5:=(Array.getElem?_eq_some_iff.1 (aJ HO1.o HK5.o.2.1 HV1.o fun cur=>aK (by decide))).1;obtain⟨A5,c5',rfl,_,_,_⟩:=aQ.form HK5.o.1 aN;generalize (st++[x]).length=ln at *)
   go_end0
   exact⟨rfl,HWA.o.push HV1.o HO1.o HK5.o.1 HK5.o.2.1,(HBA.o.grown HK5.o.2.1 (Nat.le_trans HBL.o HBA.o.size) (fun k e=>(World.ownsRow.lt HO1.o k e).1)).setCell HGB.o _,HKA.o.push (cell_of_row _ gc 0 _ _ _ HV1.o) HK5.o.2.1 HK5.o.2.2 (aJ HO1.o HK5.o.2.1 HV1.o fun cur=>aK (by decide))⟩
def zi (s:List Nat):List Int:=s.map Int.ofNat
theorem zeJ (s:List Nat):(zi s).length=s.length:=by simp[zi]
theorem zgi (s:List Nat) (i:Nat):(zi s).getD i 0=((s.getD i 0:Nat):Int):=by
 unfold zi;rw[List.getD_eq_getElem?_getD,List.getD_eq_getElem?_getD,List.getElem?_map];cases s[i]? <;> rfl
theorem zkP (s:List Nat) (i v:Nat):(zi s).set i (v:Int)=zi (s.set i v):=by unfold zi;rw[List.map_set];rfl
theorem zgh (n:Nat):zi (List.replicate n 0)=List.replicate n 0:=by simp[zi]
def RdZ (w:World) (B:Nat) (A:Option Addr) (s:List Nat):Prop:=RdU w B A (zi s)
def UBZ (w:World) (g:Nat) (s:List Nat):Prop:=UBU w g (zi s)
theorem UBZ.lt {w:World} {g:Nat} {s:List Nat} (h:UBZ w g s):g<w.heap.size:=UBU.lt h
theorem UBZ.cell {w:World} {g:Nat} {s:List Nat} (h:UBZ w g s) (i:Nat) (hi:i<s.length):w.cell? ⟨g,i,none⟩=some (.int .u32 ((s.getD i 0:Nat):Int)):=by
 have:=UBU.cell h i (by rw[zeJ];exact hi)
 rwa [zgi]at this
theorem UBZ.frozen {w:World} {g:Nat} {s:List Nat} (h:UBZ w g s) (i:Nat):w.frozen? ⟨g,i,none⟩=false:=UBU.frozen h i
theorem UBZ.set_ {w:World} {g:Nat} {s:List Nat} (h:UBZ w g s) (i v:Nat):UBZ (w.setCell ⟨g,i,none⟩ (.int .u32 (v:Int))) g (s.set i v):=by
 have:=UBU.set_ h i (v:Int)
 rwa [zkP]at this
theorem UBZ.alloc {w:World} {g:Nat} {s:List Nat} (h:UBZ w g s) (o:Obj):UBZ (w.alloc o) g s:=UBU.alloc h o
theorem UBZ.below {w w':World} {g B:Nat} {s:List Nat} (h:UBZ w g s) (hb:Below B w w') (hg:g<B):UBZ w' g s:=UBU.below h hb hg
theorem UBZ.far {w:World} {g:Nat} {s:List Nat} (h:UBZ w g s) {p:Addr} (hp:g≠p.block) (u:Value):UBZ (w.setCell p u) g s:=UBU.far h hp u
theorem UBZ.drewN {w:World} {g:Nat} {s:List Nat} (h:UBZ w g s) (n:Nat):UBZ (w.drewN n) g s:=h
theorem UBZ.rd {w:World} {g:Nat} {s:List Nat} (h:UBZ w g s) {B:Nat} (hB:g<B):RdZ w B (some ⟨g,0,none⟩) s:=UBU.rd0 h hB
theorem RdZ.cell {w:World} {B g o:Nat} {s:List Nat} (h:RdZ w B (some ⟨g,o,none⟩) s) (i:Nat) (hi:i<s.length):w.cell? ⟨g,o+i,none⟩=some (.int .u32 ((s.getD i 0:Nat):Int)):=by
 have:=RdU.cell h i (by rw[zeJ];exact hi)
 rwa [zgi]at this
theorem RdZ.addr {w:World} {B:Nat} {A:Option Addr} {s:List Nat} (h:RdZ w B A s) (h0:s.length≠0):∃g o,A=some ⟨g,o,none⟩/\g<B/\∀i,i<s.length->w.cell? ⟨g,o+i,none⟩=some (.int .u32 ((s.getD i 0:Nat):Int)):=by
 obtain⟨g,o,e,hg,hc⟩:=h (by rw[zeJ];exact h0);refine⟨g,o,e,hg,fun i hi=>?_⟩
 have:=hc i (by rw[zeJ];exact hi)
 rwa [zgi]at this
theorem RdZ.keep {w w':World} {B:Nat} {A:Option Addr} {s:List Nat} (h:RdZ w B A s) (hk:∀g o,g<B->w'.cell? ⟨g,o,none⟩=w.cell? ⟨g,o,none⟩):RdZ w' B A s:=RdU.keep h hk
theorem RdZ.below {w w':World} {B B':Nat} {A:Option Addr} {s:List Nat} (h:RdZ w B A s) (hb:Below B' w w') (hB:B<=B'):RdZ w' B A s:=RdU.below h hb hB
theorem RdZ.up {w w':World} {A:Option Addr} {s:List Nat} (h:RdZ w w.heap.size A s) (hb:Below w.heap.size w w'):RdZ w' w'.heap.size A s:=RdU.up h hb
theorem RdZ.more {w:World} {B B':Nat} {A:Option Addr} {s:List Nat} (h:RdZ w B A s) (hB:B<=B'):RdZ w B' A s:=RdU.more h hB
def zm3 (w:World) (g:Nat):Nat:=match w.heap[g]? with
 | some (.cells cs _ _)=>(cs.toList.map fun v=>match v with | .int _ z=>4294967296-z.toNat|_=>0).sum
 | _=>0
theorem UBZ.cnt {w:World} {g:Nat} {s:List Nat} (h:UBZ w g s):zm3 w g=Gm.gap s:=by
 unfold zm3 Gm.gap;rw[show w.heap[g]?=_ from h];clear h;simp only[zi,List.map_map]
 congr 1
def zeF (s:List Nat) (w:World) (e:Ending) (w':World):Prop:=∃g,e=.returned (.slice (some ⟨g,0,none⟩) s.length s.length)/\w.heap.size<=g/\UBZ w' g s/\Below w.heap.size w w'
def zi6 (b:Bool) (s:List Nat) (w:World) (e:Ending) (w':World):Prop:=(b=true->zeF s w e w')/\(b=false->e=.returned (.slice none 0 0)/\Below w.heap.size w w')
def zmm (s:List Nat) (w:World) (e:Ending) (w':World):Prop:=∃A c,e=.returned (.slice A s.length c)/\RdZ w' w'.heap.size A s/\Below w.heap.size w w'
theorem zi6.rd {b:Bool} {s:List Nat} {w w':World} {e:Ending} (h:zi6 b s w e w'):zmm (if b=true then s else []) w e w':=by
 cases b
 ·obtain⟨h1,h2⟩:=h.2 rfl;exact⟨none,0,h1,RdU.nil _ _ _,h2⟩
 ·obtain⟨g,h1,h2,h3,h4⟩:=h.1 rfl;exact⟨some ⟨g,0,none⟩,s.length,h1,h3.rd h3.lt,h4⟩
theorem zeF.rd {s:List Nat} {w w':World} {e:Ending} (h:zeF s w e w'):zmm s w e w':=by
 obtain⟨g,h1,h2,h3,h4⟩:=h;exact⟨some ⟨g,0,none⟩,s.length,h1,h3.rd h3.lt,h4⟩
theorem zcE (z:Int) (w:World) :
  Calls Tryz.prog 178 #[.int .i64 z] w fun e w'=>e=.returned (.bool (decide (z<0)))/\w'=w:=by
 go_enter Tryz.func178,Tryz.ntmps178
 go_wp2;go_ret
 exact⟨rfl,rfl⟩
theorem zff (z:Int) (hz:-9223372036854775808<=z) (hz':z<=9223372036854775807) (w:World) :
  Calls Tryz.prog 179 #[.int .i64 z] w fun e w'=>e=.returned (.int .i64 (-1-z))/\w'=w:=by
 have hs:IntKind.i64.wrap (-1-z) = -1-z:=IntWalk.i64_in _ (by omega);clear hz hz'
 go_enter Tryz.func179,Tryz.ntmps179
 go_wp2;go_ret
 exact⟨rfl,rfl⟩
theorem zhA (n:Int) (w:World) :
  Calls Tryz.prog 180 #[.int .i64 n] w fun e w'=>e=.returned (.int .u32 (S.bit n))/\Below w.heap.size w w':=by
 have H:=aA (show Calls Tryz.prog 190 #[.slice (some ⟨w.heap.size,0,none⟩) 1 1] (w.alloc (.cells #[.int .i64 n] 3)) _ from zjT (some ⟨w.heap.size,0,none⟩) 1 (w.alloc (zbA [n])).heap.size [n] (w.alloc (zbA [n])) (ziG w [n]).1 (by simp));have HB:=aA (ziG w [n]).2;rw[S.of_one]at H
 go_enter Tryz.func180,Tryz.ntmps180
 go_wp2_with fail
 refine H.o.mono ?_;rintro _ w2 ⟨rfl,q,rfl⟩;go_wp2;go_ret
 exact⟨rfl,aB HB.o q⟩
def Gm.bgN (fs:List Nat) (z:Int):Nat:=if 0<=z then 2 ^ z.toNat else fs.getD (-1-z).toNat 0
def Gm.mbN (nu:List Bool) (z:Int):Bool:=decide (z<0)&&nu.getD (-1-z).toNat false
theorem Gm.ofN_cons (nu:List Bool) (fs:List Nat) (rest:Nat) (z:Int) (r:List Int):Gm.ofN nu fs rest (z::r)=Gm.bgN fs z ||| (if Gm.mbN nu z=true then Gm.ofN nu fs rest r else 0):=by
 rw[Gm.ofN];unfold Gm.bgN Gm.mbN;by_cases h:0<=z
 ·rw[if_pos h,if_pos h,decide_eq_false (by omega)];simp
 ·rw[if_neg h,if_neg h,decide_eq_true (by omega)];simp
theorem Gm.bgN_lt {fs:List Nat} (h:Gm.U32 fs) {z:Int} (hz:z<=31):Gm.bgN fs z<4294967296:=by
 unfold Gm.bgN;split
 ·have:=Nat.pow_le_pow_right (n:=2) (by decide) (show z.toNat<=31 by omega)
  omega
 ·exact h _
theorem zga (z:Int) (fs:List Nat) (A A2:Option Addr) (n c c2 B:Nat) (w:World) (hz:Gm.In z) (h31:z<=31) (hs:z<0->-1-z<(fs.length:Int)) (hr:RdZ w B A2 fs) (hB:B<=w.heap.size) :
  Calls Tryz.prog 154 #[.agg #[.slice A n c,.slice A2 fs.length c2],.int .i64 z] w fun e w'=>e=.returned (.int .u32 (Gm.bgN fs z))/\Below w.heap.size w w':=by
 unfold Gm.In at hz;have HI:=aA (fun w=>zcE z w);have HX:=aA (fun w=>zff z hz.1 hz.2 w);have HO:=aA (fun w=>zhA z w);have HB:=aA (fun o=>(Below.refl w.heap.size w).alloc (Nat.le_refl _) o);by_cases h0:z<0
 ·have hm:=hs h0;have hbg:Gm.bgN fs z=fs.getD (-1-z).toNat 0:=by unfold Gm.bgN;rw[if_neg (by omega)]
  obtain⟨m,he⟩:∃m:Nat,-1-z=(m:Int):=⟨(-1-z).toNat,by omega⟩
  rw[hbg];rw[he]at HX hm ⊢;have hm2:m<fs.length:=by omega
  obtain⟨g,o,rfl,hgb,hc⟩:=hr.addr (by omega);have k0:=hc m hm2;have hgs:g<w.heap.size:=by omega
  simp only[Int.toNat_natCast];rw[decide_eq_true h0]at HI;generalize fs.getD m 0=b at *;clear hz hs hr hc h0 he h31 hbg HO
  go_enter Tryz.func154,Tryz.ntmps154
  go_wp2_with fail
  refine(HI.o _).mono ?_;rintro _ w2 ⟨rfl,hw2⟩;subst hw2;go_wp2_with fail
  go_quiet ((go_at_call 179;exact Calls.quiet_of_same (HX.o _)))
  go_wp2;go_ret
  exact⟨rfl,aB (HB.o _) _⟩
 ·have hbg:Gm.bgN fs z=S.bit z:=by unfold Gm.bgN S.bit;rw[if_pos (by omega),if_pos (by omega)]
  rw[hbg];rw[decide_eq_false h0]at HI;clear hz hs hr h0 HX h31 hbg
  go_enter Tryz.func154,Tryz.ntmps154
  go_wp2_with fail
  refine(HI.o _).mono ?_;rintro _ w2 ⟨rfl,hw2⟩;subst hw2;go_wp2_with fail
  refine(HO.o _).mono ?_;rintro _ w2 ⟨rfl,hb2⟩;have HB2:=aA ((HB.o _).trans (hb2.mono (by simp)));clear hb2;go_wp2;go_ret
  exact⟨rfl,HB2.o⟩
theorem zg7 (z:Int) (nu:List Bool) (A A2:Option Addr) (n c c2 B:Nat) (w:World) (hz:Gm.In z) (hs:z<0->-1-z<(nu.length:Int)) (hr:RdO w B A nu) (hB:B<=w.heap.size) :
  Calls Tryz.prog 155 #[.agg #[.slice A nu.length c,.slice A2 n c2],.int .i64 z] w fun e w'=>e=.returned (.bool (Gm.mbN nu z))/\Below w.heap.size w w':=by
 unfold Gm.In at hz;have HI:=aA (fun w=>zcE z w);have HX:=aA (fun w=>zff z hz.1 hz.2 w);have HB:=aA (fun o=>(Below.refl w.heap.size w).alloc (Nat.le_refl _) o);by_cases h0:z<0
 ·have hm:=hs h0;have hbg:Gm.mbN nu z=nu.getD (-1-z).toNat false:=by unfold Gm.mbN;rw[decide_eq_true h0,Bool.true_and]
  obtain⟨m,he⟩:∃m:Nat,-1-z=(m:Int):=⟨(-1-z).toNat,by omega⟩
  rw[hbg];rw[he]at HX hm ⊢;have hm2:m<nu.length:=by omega
  obtain⟨g,o,rfl,hgb,hc⟩:=hr (by omega);have k0:=hc m hm2;have hgs:g<w.heap.size:=by omega
  simp only[Int.toNat_natCast];rw[decide_eq_true h0]at HI;generalize nu.getD m false=b at *;clear hz hs hr hc h0 he hbg
  go_enter Tryz.func155,Tryz.ntmps155
  go_wp2_with fail
  go_quiet (first|(go_at_call 179;exact Calls.quiet_of_same (HX.o _))|(go_at_call 178;exact Calls.quiet_of_same (HI.o _)))
  go_wp2;go_ret
  exact⟨rfl,aB (HB.o _) _⟩
 ·have hbg:Gm.mbN nu z=false:=by unfold Gm.mbN;rw[decide_eq_false h0,Bool.false_and]
  rw[hbg];rw[decide_eq_false h0]at HI;clear hz hs hr h0 HX hbg
  go_enter Tryz.func155,Tryz.ntmps155
  go_wp2_with fail
  go_quiet ((go_at_call 178;exact Calls.quiet_of_same (HI.o _)))
  go_wp2;go_ret
  exact⟨rfl,aB (HB.o _) _⟩
theorem Gm.ofN_step (nu:List Bool) (fs:List Nat) (rest:Nat) (l:List Int) (k:Nat) (hk:k<l.length) (s:Nat):s ||| Gm.ofN nu fs rest (l.drop k)=(s ||| Gm.bgN fs l[k]) ||| (if Gm.mbN nu l[k]=true then Gm.ofN nu fs rest (l.drop (k+1)) else 0):=by
 rw[List.drop_eq_getElem_cons hk,Gm.ofN_cons,Nat.or_assoc]
theorem zhl (l:List Int) (rest:Nat) (nu:List Bool) (fs:List Nat) (A A1 A2:Option Addr) (c c1 c2 B B1 B2:Nat) (w:World) (hr:RdI w B A l) (h1:RdO w B1 A1 nu) (h2:RdZ w B2 A2 fs) (hB:B<=w.heap.size) (hB1:B1<=w.heap.size) (hB2:B2<=w.heap.size)
  (hin:∀z∈l,Gm.In z) (h31:∀z∈l,z<=31) (hs:∀z∈l,z<0->-1-z<(fs.length:Int)) (hn:nu.length=fs.length) (hf:Gm.U32 fs) (hrest:rest<4294967296) (hl:l.length<=9223372036854775807) :
  Calls Tryz.prog 116 #[.agg #[.slice A1 nu.length c1,.slice A2 fs.length c2],.slice A l.length c,.int .u32 rest] w fun e w'=>e=.returned (.int .u32 (Gm.ofN nu fs rest l))/\Below w.heap.size w w':=by
 have HB0:=aA ((Below.refl w.heap.size w).alloc (Nat.le_refl _) (.cells #[.slice A1 nu.length c1,.slice A2 fs.length c2] 185));obtain⟨wk,hwk⟩:∃y,y=w.alloc (.cells #[.slice A1 nu.length c1,.slice A2 fs.length c2] 185):=⟨_,rfl⟩
 have HS:Hid (wk.heap.size=w.heap.size+1):=aA (by rw[hwk];simp);have hd:w.heap.size<wk.heap.size:=by rw[HS.o];omega
 have HK:=aA (show wk.heap[w.heap.size]?=some (.cells #[.slice A1 nu.length c1,.slice A2 fs.length c2] 185 (0,0)) by rw[hwk];exact heap_alloc_new w _);rw[<-hwk]at HB0;have HRI:=aA (hr.below HB0.o hB);have HBB:=aA hB;have HBG:=aA (fun(y:World) (hy:Below wk.heap.size wk y) z (hz:z∈l)=>zga z fs A1 A2 nu.length c1 c2 B2 y (hin z hz) (h31 z hz) (hs z hz) (h2.keep fun g o hg=>((HB0.o.trans (hy.mono (Nat.le_of_lt hd))).cell (p:=⟨g,o,none⟩) (by simp only;omega))) (by have:=hy.size;omega));have HMB:=aA (fun(y:World) (hy:Below wk.heap.size wk y) z (hz:z∈l)=>zg7 z nu A1 A2 fs.length c1 c2 B1 y (hin z hz) (fun h=>by rw[hn];exact hs z hz h) (h1.keep fun g o hg=>((HB0.o.trans (hy.mono (Nat.le_of_lt hd))).cell (p:=⟨g,o,none⟩) (by simp only;omega))) (by have:=hy.size;omega));have H31:=aA (fun z hz=>Gm.bgN_lt hf (h31 z hz));have HRE:=aA hrest;have HST:=aA (Gm.ofN_step nu fs rest l);have HGB:=aA (fun(k:Nat) (hk:k<l.length)=>List.getElem_mem hk);have h0:(l.length:Int)<=9223372036854775807:=by omega
 obtain⟨r,hr0⟩:∃r,r=Gm.ofN nu fs rest l:=⟨_,rfl⟩
 have HR0:=aA hr0;rw[<-hr0];clear hr h1 h2 hin h31 hs hn hf hB hB1 hB2 hl hr0 hrest
 go_enter Tryz.func116,Tryz.ntmps116
 go_upto_region 1 with fail
 rw[<-hwk];clear hwk;go_wp2;go_loopw [12,7] (fun vi vs wr=>∃(k s:Nat),k<=l.length/\vi=.int .i64 k/\vs=.int .u32 s/\Hid (s<4294967296)/\Hid (r=s ||| Gm.ofN nu fs rest (l.drop k))/\Hid (Below wk.heap.size wk wr)) (fun vi _ _=>l.length-(intOf vi).toNat)
 case atStart=>exact⟨0,0,Nat.zero_le _,rfl,rfl,aA (by decide),aA (by rw[HR0.o];simp),aA (Below.refl _ _)⟩
 case round =>
  obtain⟨k,s,hk,rfl,rfl,HL,HE,HBw⟩:=hrel;have kc:wr.heap[w.heap.size]?=some (.cells #[.slice A1 nu.length c1,.slice A2 fs.length c2] 185 (0,0)):=(HBw.o.block w.heap.size hd).trans HK.o;have q0:=cell_of_row wr _ 0 _ _ _ kc;have q1:=cell_of_row wr _ 1 _ _ _ kc;have hdr:w.heap.size<wr.heap.size:=Nat.lt_of_lt_of_le hd HBw.o.size;by_cases hlt:k<l.length
  ·obtain⟨g,o,rfl,hgb,hc⟩:=(HRI.o.keep fun g o hg=>(HBw.o.cell (p:=⟨g,o,none⟩) (by have:=HBB.o;simp only;omega))) (by omega)
   have k0:=hc k hlt;rw[L.gd_lt hlt]at k0;have HBz:=aA (fun y hy=>HBG.o y hy _ (HGB.o k hlt));have HMz:=aA (fun y hy=>HMB.o y hy _ (HGB.o k hlt));have HSz:=aA (HE.o.trans (HST.o k hlt s));have HUz:=aA (H31.o _ (HGB.o k hlt));clear hc;generalize l[k]=z at *;have ho:=aA (u32_or_nat s (Gm.bgN fs z) HL.o HUz.o);have HL2:=aA (Gm.or32 HL.o HUz.o);generalize Gm.bgN fs z=b at *;obtain⟨s2,hs2⟩:∃s2,s2=s ||| b:=⟨_,rfl⟩
   rw[<-hs2]at ho HL2 HSz;clear hs2;cases hmb:Gm.mbN nu z
   ·rw[hmb]at HMz HSz;clear hmb;go_wp2_with fail
    refine(HBz.o _ HBw.o).mono ?_;rintro _ w2 ⟨rfl,hb2⟩;have HB2:=aA (HBw.o.trans (hb2.mono HBw.o.size));have kc2:=(HB2.o.block w.heap.size hd).trans HK.o;have p0:=cell_of_row w2 _ 0 _ _ _ kc2;have p1:=cell_of_row w2 _ 1 _ _ _ kc2;have hd2:w.heap.size<w2.heap.size:=Nat.lt_of_lt_of_le hd HB2.o.size;clear q0 q1 kc k0 hb2 kc2;go_wp2_with fail
    refine(HMz.o _ HB2.o).mono ?_;rintro _ w3 ⟨rfl,hb3⟩;have HB3:=aA (HB2.o.trans (hb3.mono HB2.o.size));clear hb3;go_wp2_with fail
    go_ret
    refine⟨aS ?_,HB0.o.trans (HB3.o.mono (Nat.le_of_lt hd))⟩;rw[ho.o,HSz.o];simp
   ·rw[hmb]at HMz HSz;clear hmb;go_wp2_with fail
    refine(HBz.o _ HBw.o).mono ?_;rintro _ w2 ⟨rfl,hb2⟩;have HB2:=aA (HBw.o.trans (hb2.mono HBw.o.size));have kc2:=(HB2.o.block w.heap.size hd).trans HK.o;have p0:=cell_of_row w2 _ 0 _ _ _ kc2;have p1:=cell_of_row w2 _ 1 _ _ _ kc2;have hd2:w.heap.size<w2.heap.size:=Nat.lt_of_lt_of_le hd HB2.o.size;clear q0 q1 kc k0 hb2 kc2;go_wp2_with fail
    refine(HMz.o _ HB2.o).mono ?_;rintro _ w3 ⟨rfl,hb3⟩;have HB3:=aA (HB2.o.trans (hb3.mono HB2.o.size));clear hb3;go_wp2_with fail
    go_roundw
    case rel=>exact⟨k+1,s2,hlt,by go_num,by rw[ho.o],HL2,aA (by rw[HSz.o];simp),HB3⟩
    case measure=>simp[intOf];omega
  ·obtain rfl:k=l.length:=by omega
   have ho:=aA (u32_or_nat s rest HL.o HRE.o);have HX:Hid (r=s ||| rest):=aA (by rw[HE.o,List.drop_length];rfl);go_wp2_with fail
   go_ret
   exact⟨aS (by rw[ho.o,HX.o]),HB0.o.trans (HBw.o.mono (Nat.le_of_lt hd))⟩
structure GSt (w wr:World) (gk n ck:Nat) (s:List Nat) (b:Bool):Prop where
 u:UBZ wr gk s
 l:s.length=n
 q:wr.heap[w.heap.size]?=some (.cells #[.slice (some ⟨gk,0,none⟩) n ck] 41 (0,0))
 p:wr.heap[w.heap.size+1]?=some (.cells #[.bool b] 4 (0,0))
 g:w.grownBy wr (some gk)
 k:gk<w.heap.size
section
variable {w wr w':World} {gk n ck:Nat} {s:List Nat} {b:Bool}
theorem GSt.below (h:GSt w wr gk n ck s b) (hb:Below wr.heap.size wr w'):GSt w w' gk n ck s b:=⟨h.u.below hb h.u.lt,h.l,aC hb h.q,aC hb h.p,zac h.g (aM hb _),h.k⟩
theorem GSt.alloc (h:GSt w wr gk n ck s b) (o:Obj):GSt w (wr.alloc o) gk n ck s b:=h.below ((Below.refl _ wr).alloc (Nat.le_refl _) o)
theorem GSt.drewN (h:GSt w wr gk n ck s b) (m:Nat):GSt w (wr.drewN m) gk n ck s b:=⟨h.u,h.l,h.q,h.p,zfK h.g m,h.k⟩
theorem GSt.hs (h:GSt w wr gk n ck s b):w.heap.size+1<wr.heap.size:=(Array.getElem?_eq_some_iff.1 h.p).1
theorem GSt.grew (h:GSt w wr gk n ck s b) (b':Bool):GSt w (wr.setCell ⟨w.heap.size+1,0,none⟩ (.bool b')) gk n ck s b' :=
 ⟨h.u.far (by have:=h.k;simp only;omega) _,h.l,(Below.heap_setCell wr ⟨w.heap.size+1,0,none⟩ _ _ (by simp only;omega)).trans h.q,heap_setCell_same wr _ 0 _ _ _ h.p,⟨h.g.os,h.g.tape,h.g.output,by have:=h.g.size;simpa using this,fun i hi hne=>(Below.heap_setCell wr ⟨w.heap.size+1,0,none⟩ _ i (by simp only;omega)).trans (h.g.block i hi hne)⟩,h.k⟩
theorem GSt.put (h:GSt w wr gk n ck s b) (m v:Nat):GSt w (wr.setCell ⟨gk,m,none⟩ (.int .u32 (v:Int))) gk n ck (s.set m v) b :=
 ⟨h.u.set_ m v,by rw[List.length_set];exact h.l,(Below.heap_setCell wr ⟨gk,m,none⟩ _ _ (by have:=h.k;simp only;omega)).trans h.q,(Below.heap_setCell wr ⟨gk,m,none⟩ _ _ (by have:=h.k;simp only;omega)).trans h.p,aF h.g m _,h.k⟩
end
def bC (w:World) (g:Nat):Nat:=match w.heap[g]? with
 | some (.cells cs _ _)=>bN (cs.getD 0 undef)
 | _=>0
theorem zmk {w:World} {g:Nat} {b:Bool} {t:TypeId} {f:Nat×Nat} (h:w.heap[g]?=some (.cells #[.bool b] t f)):bC w g=if b=true then 1 else 0:=by
 unfold bC;rw[h];cases b <;> rfl
theorem ziS (w wr:World) (gk n ck:Nat) (s:List Nat) (b:Bool) (m v:Nat) (hm:m<n) (hv:v<4294967296) (hs:Gm.U32 s) (h:GSt w wr gk n ck s b) :
  Calls Tryz.prog 177 #[.int .i64 m,.int .u32 v,.pointer (some ⟨w.heap.size+1,0,none⟩),.pointer (some ⟨w.heap.size,0,none⟩)] wr fun e w'=>e=.returned (.tuple #[])/\GSt w w' gk n ck (Gm.addN s m v) (b||decide (Gm.addN s m v≠s))/\w'.heap.size=wr.heap.size/\∀i,i≠gk->i≠w.heap.size+1->w'.heap[i]?=wr.heap[i]?:=by
 have hml:m<s.length:=by rw[h.l];exact hm
 have HN:=aA (Gm.new_iff (hs m) hv);have HA:=aA (Gm.addN_same (v:=v) hml);have hx:=u32_andNot_nat v (s.getD m 0) hv (hs m);have ho:=u32_or_nat (s.getD m 0) v (hs m) hv;have HH:=aA h;have c0:wr.cell? ⟨w.heap.size,0,none⟩=some (.slice (some ⟨gk,0,none⟩) n ck):=by rw[cell_of_row wr _ 0 _ _ _ h.q];rfl
 have c1:wr.cell? ⟨w.heap.size+1,0,none⟩=some (.bool b):=by rw[cell_of_row wr _ 0 _ _ _ h.p];rfl
 have f1:=frozen_of_row wr _ 0 _ _ h.p;have cm:=h.u.cell m hml;have hd:=h.hs;have hgk:=h.u.lt;have hm2:(m:Int)<(n:Int):=by omega
 generalize hB:(b||decide (Gm.addN s m v≠s))=b2;have HB:=aA hB;obtain⟨wy,hwy⟩:∃y,y=wr.setCell ⟨w.heap.size+1,0,none⟩ (.bool b2):=⟨_,rfl⟩
 have hy:GSt w wy gk n ck s b2:=by rw[hwy];exact h.grew b2
 have HZ:=aA (show GSt w (wy.setCell ⟨gk,m,none⟩ (.int .u32 ((s.getD m 0 ||| v:Nat):Int))) gk n ck (Gm.addN s m v) b2 from hy.put m _);have HYS:Hid (wy.heap.size=wr.heap.size):=aA (by rw[hwy];simp);have HYB:Hid (∀i,i≠gk->i≠w.heap.size+1->(wy.setCell ⟨gk,m,none⟩ (.int .u32 ((s.getD m 0 ||| v:Nat):Int))).heap[i]?=wr.heap[i]?):=aA (fun i h1 h2=>by rw[Below.heap_setCell _ _ _ _ (by simp only;exact h1),hwy,Below.heap_setCell _ _ _ _ (by simp only;exact h2)]);have e0:wy.cell? ⟨w.heap.size,0,none⟩=some (.slice (some ⟨gk,0,none⟩) n ck):=by rw[cell_of_row wy _ 0 _ _ _ hy.q];rfl
 have em:=hy.u.cell m hml;have fm:=hy.u.frozen m;have hdy:=hy.hs;have hgy:=hy.u.lt;clear hy hB h hs hm hml hv;cases b
 ·rw[Bool.false_or]at HB
  have hne:(((v &&& (4294967295-s.getD m 0):Nat):Int) != 0)=b2:=by
   have h1:=HN.o;have h2:=HA.o;rw[<-HB.o];by_cases e:v &&& (4294967295-s.getD m 0)=0
   ·rw[e,decide_eq_false (p:=Gm.addN s m v≠s) (fun hn=>hn (h2.2 (h1.1 e)))];rfl
   ·rw[decide_eq_true (p:=Gm.addN s m v≠s) (fun he=>e (h1.2 (h2.1 he)))];rw[bne_iff_ne];omega
  generalize v &&& (4294967295-s.getD m 0)=d at *;generalize s.getD m 0 ||| v=d2 at *;generalize s.getD m 0=d3 at *;clear HN HA HB HH
  go_enter Tryz.func177,Tryz.ntmps177
  go_upto_region 1 with fail
  rw[<-hwy];clear hwy c0 c1 f1 cm;go_wp2;go_end0
  exact⟨rfl,HZ.o,by rw[<-HYS.o];simp,HYB.o⟩
 ·rw[Bool.true_or]at HB;obtain rfl:=HB.o;generalize s.getD m 0 ||| v=d2 at *;generalize s.getD m 0=d3 at *;clear HN HA HB HH hx
  go_enter Tryz.func177,Tryz.ntmps177
  go_upto_region 1 with fail
  rw[<-hwy];clear hwy c0 c1 f1 cm;go_wp2;go_end0
  exact⟨rfl,HZ.o,by rw[<-HYS.o];simp,HYB.o⟩
theorem Gm.new_or {s s1 s2:List Nat} (h1:Gm.NLe s s1) (h2:Gm.NLe s1 s2):(decide (s1≠s)||decide (s2≠s1))=decide (s2≠s):=by
 by_cases e:s1=s
 ·subst e;simp
 ·rw[decide_eq_true e,Bool.true_or]
  symm
  rw[decide_eq_true_iff];rintro rfl;exact e (h1.anti h2)
theorem zhz (fb:Nat) (caps:Array Value) (hE:∀args w,Sem.run Tryz.prog (callFunc fb args) w=.ok (.enter fb args) w) (rs:List Gm.Rl) (AR:Option Addr) (cR ck B gk n:Nat) (w:World) (s0:List Nat) (P:List Nat->Prop) (br:List Nat->Gm.Rl->List Nat)
  (hR:zd8 w B AR rs) (hB:B<=w.heap.size) (hkB:B<=gk) (hu:UBZ w gk s0) (hn:s0.length=n) (h0:P s0) (hl:rs.length<=1000000) (hle:∀s x,Gm.NLe s (br s x)) (hP:∀s x,x∈rs->P s->P (br s x)) (hPu:∀s,P s->Gm.U32 s)
  (hbr:∀(y:World) (s:List Nat) (b:Bool) (x:Gm.Rl) (A':Option Addr) (c':Nat),GSt w y gk n ck s b->P s->x∈rs->RdI y B A' x.r->x.r.length<=c'->Calls Tryz.prog fb (#[.agg #[.int .i64 x.l,.slice A' x.r.length c',.int .i64 x.p],.func (Fn.func 177) #[] #[.pointer (some ⟨w.heap.size+1,0,none⟩),.pointer (some ⟨w.heap.size,0,none⟩)]]++caps) y fun e w'=>e=.returned (.tuple #[])/\GSt w w' gk n ck (br s x) (b||decide (br s x≠s))/\y.heap.size<=w'.heap.size) :
  Calls Tryz.prog 152 #[.slice (some ⟨gk,0,none⟩) n ck,.slice AR rs.length cR,.func (Fn.func fb) #[] caps] w fun e w'=>e=.returned (.tuple #[])/\∃s,P s/\(∀x∈rs,br s x=s)/\UBZ w' gk s/\s.length=n/\w.grownBy w' (some gk):=by
 have HR:=aA hR;have HB:=aA hB;have HK:=aA hkB;have HBR:=aA hbr;have HLE:=aA hle;have HP:=aA hP;have HPU:=aA hPu;have hlen:(rs.length:Int)<=9223372036854775807:=by omega
 have hw0:=heap_alloc_new w (.cells #[.slice (some ⟨gk,0,none⟩) n ck] 41);have hu1:=hu.alloc (.cells #[.slice (some ⟨gk,0,none⟩) n ck] 41);obtain⟨w1,hw1⟩:∃y,y=w.alloc (.cells #[.slice (some ⟨gk,0,none⟩) n ck] 41):=⟨_,rfl⟩
 rw[<-hw1]at hw0 hu1;have hs1:w1.heap.size=w.heap.size+1:=by rw[hw1];simp
 have hg1:w.grownBy w1 (some gk):=by rw[hw1];exact aG (World.grownBy.refl _ _) _
 have hG0:GSt w (w1.alloc (.cells #[.bool true] 4)) gk n ck s0 true :=
  ⟨hu1.alloc _,hn,(Below.heap_alloc _ _ _ (by omega)).trans hw0,by rw[<-hs1];exact heap_alloc_new w1 _,aG hg1 _,hu.lt⟩
 obtain⟨w2,hw2⟩:∃y,y=w1.alloc (.cells #[.bool true] 4):=⟨_,rfl⟩
 rw[<-hw2]at hG0;have HG0:=aA hG0;have H0:=aA h0;clear hR hB hkB hu hn hl hbr hle hP hPu hw0 hu1 hg1 hG0 h0
 go_enter Tryz.func152,Tryz.ntmps152
 go_upto_region 1 with fail
 rw[<-hw1];clear hw1;go_upto_region 2 with fail
 rw[<-hw2];clear hw2;go_wp2;go_loopw [11] (fun _ wr=>∃(s:List Nat) (b:Bool),Hid (GSt w wr gk n ck s b)/\Hid (P s)/\Hid (b=false->∀x∈rs,br s x=s)) (fun _ wr=>2*zm3 wr gk+bC wr (w.heap.size+1))
 case atStart=>exact⟨s0,true,HG0,H0,aA (fun h=>by cases h)⟩
 case round =>
  obtain⟨s,b,HG,HS,HC⟩:=hrel;obtain⟨wo,hwo⟩:∃wo:World,wo=wr:=⟨_,rfl⟩
  subst hwo;have c1:wo.cell? ⟨w.heap.size+1,0,none⟩=some (.bool b):=by rw[cell_of_row wo _ 0 _ _ _ HG.o.p];rfl
  have f1:=frozen_of_row wo _ 0 _ _ HG.o.p;have hd:=HG.o.hs;cases b
  ·go_wp2;go_end0
   exact⟨rfl,s,HS.o,HC.o (by trivial),HG.o.u,HG.o.l,HG.o.g⟩
  ·clear HC;obtain⟨wf,hwf⟩:∃y,y=wo.setCell ⟨w.heap.size+1,0,none⟩ (.bool false):=⟨_,rfl⟩
   have HF:Hid (GSt w wf gk n ck s false):=aA (by rw[hwf];exact HG.o.grew false);go_upto_region 5 with fail
   rw[<-hwf];clear c1 f1 hwf;go_wp2;go_loopw [14] (fun vi wr=>∃(s1:List Nat) (b1:Bool) (i:Nat),i<=rs.length/\vi=.int .i64 i/\Hid (GSt w wr gk n ck s1 b1)/\Hid (P s1)/\Hid (Gm.NLe s s1)/\Hid (b1=decide (s1≠s))/\Hid (s1=(rs.take i).foldl br s)) (fun vi _=>rs.length-(intOf vi).toNat)
   case atStart=>exact⟨s,false,0,Nat.zero_le _,rfl,HF,HS,aA (Gm.NLe.refl _),aA (by simp),aA rfl⟩
   case round =>
    obtain⟨s1,b1,i,hi,rfl,HG1,HS1,HL1,HB1,HF1⟩:=hrel;obtain⟨wi,hwi⟩:∃wi:World,wi=wr:=⟨_,rfl⟩
    subst hwi;by_cases hlt:i<rs.length
    ·obtain⟨g,o,rfl,hgB,hc⟩:=HR.o (by omega);obtain⟨k0,⟨A',c',k1,hlc,_,hri⟩,k2⟩:=hc i hlt;have k0:=(zal HG1.o.g HB.o HK.o hgB).trans k0;have k1:=(zal HG1.o.g HB.o HK.o hgB).trans k1;have k2:=(zal HG1.o.g HB.o HK.o hgB).trans k2;have hgs:g<wi.heap.size:=by have:=HG1.o.g.size;have:=HB.o;omega
     have HBi:=aA (fun(o:Obj)=>HBR.o (wi.alloc o) s1 b1 rs[i] A' c' (HG1.o.alloc o) HS1.o (List.getElem_mem hlt) (hri.keep fun g o hg=>zal (HG1.o.alloc _).g HB.o HK.o hg) hlc);have HLi:=aA (HLE.o s1 rs[i]);have HPi:=aA (HP.o s1 rs[i] (List.getElem_mem hlt) HS1.o);have HTi:Hid (rs.take (i+1)=rs.take i++[rs[i]]):=aA (List.take_succ_eq_append_getElem hlt);clear hc hri hlc;generalize rs[i]=x at *;go_wp2_with fail
     refine(HBi.o _).mono ?_;rintro _ w2 ⟨rfl,hg2,hz2⟩;have HG2:=aA hg2;clear hg2 hz2 k0 k1 k2 hgs;go_wp2;go_roundw
     case rel=>exact⟨br s1 x,_,i+1,hlt,by go_num,HG2,HPi,aA (HL1.o.trans HLi.o),aA (by rw[HB1.o];exact Gm.new_or HL1.o HLi.o),aA (by rw[HTi.o,List.foldl_append,<-HF1.o];rfl)⟩
     case measure=>simp[intOf];omega
    ·obtain rfl:i=rs.length:=by omega
     rw[List.take_length]at HF1;go_wp2;go_roundw
     case rel=>exact⟨s1,b1,HG1,HS1,aA fun e x hx=>by
      have e1:s1=s:=by
       have:=HB1.o
       rw[e]at this;exact Classical.byContradiction fun h=>by rw[decide_eq_true h]at this;cases this
      have h2:=HF1.o;rw[e1]at h2 ⊢;exact Gm.fold_rest HLE.o rs s h2.symm x hx⟩
     case measure =>
      have q1:=HG.o.u.cnt;have q2:=HG1.o.u.cnt;have q3:=zmk HG.o.p;have q4:=zmk HG1.o.p;rw[q1,q2,q3,q4];cases b1
      ·have e1:s1=s:=by
        have:=HB1.o
        exact Classical.byContradiction fun h=>by rw[decide_eq_true h]at this;cases this
       rw[e1];simp
      ·have e1:s1≠s:=of_decide_eq_true HB1.o.symm
       have:=Gm.gap_lt HL1.o (HPU.o s1 HS1.o) (fun e=>e1 e.symm)
       simp;omega
end Go.Proofs.YtcmhaemaophplaaGreat
namespace Go.Proofs.YtcmhaemaophplaaGreat
set_option maxRecDepth 100000
set_option maxHeartbeats 40000000
open Go.RowKit
def zh2 (g h:Nat) (w:World):Type:={x:World // x.heap[g]?=w.heap[g]?/\x.heap[h]?=w.heap[h]?}
instance (g h:Nat) (w:World):Nonempty (zh2 g h w):=⟨⟨w,rfl,rfl⟩⟩
structure RlIn (nt nn:Nat) (x:Gm.Rl):Prop where
 i:∀z∈x.r,Gm.In z
 t:∀z∈x.r,z<=31
 n:∀z∈x.r,z<0->-1-z<(nn:Int)
 l0:0<=x.l
 l1:x.l<(nn:Int)
 c:x.r.length<=6
theorem zk4 {G:Gm.Gr} (hf:Gm.Fit G) (hok:Gm.Ok G) {x:Gm.Rl} (hx:x∈G.rs):RlIn G.ts.length G.ns.length x:=by
 have h1:=Gm.rule_in (hok.rr x hx);have h2:=(Gm.terms_iff G.ts).1 hok.t;exact⟨(hf.r x hx).2.2,fun z hz=>by have:=(h1.2.2.2 z hz).1;omega,fun z hz h=>hok.sin x hx z hz h,(hok.lin x hx).1,(hok.lin x hx).2,h1.1⟩
theorem zfR (w y:World) (gk n ck kp nt:Nat) (s:List Nat) (b:Bool) (nu:List Bool) (A1 A':Option Addr) (c1 c' B:Nat) (x:Gm.Rl) (h:GSt w y gk n ck s b) (hkp:y.heap[kp]?=some (.cells #[.slice A1 n c1,.slice (some ⟨gk,0,none⟩) n ck] 185 (0,0)))
  (h1:RdO y y.heap.size A1 nu) (hnu:nu.length=n) (hne:kp≠gk) (hkw:kp<w.heap.size) (hr:RdI y B A' x.r) (hB:B<=y.heap.size) (hU:Gm.U32 s) (hx:RlIn nt n x) :
  Calls Tryz.prog 153 #[.agg #[.int .i64 x.l,.slice A' x.r.length c',.int .i64 x.p],.func (Fn.func 177) #[] #[.pointer (some ⟨w.heap.size+1,0,none⟩),.pointer (some ⟨w.heap.size,0,none⟩)],.pointer (some ⟨kp,0,none⟩)] y fun e w'=>e=.returned (.tuple #[])/\GSt w w' gk n ck (Gm.firstN1 nu s x) (b||decide (Gm.firstN1 nu s x≠s))/\y.heap.size<=w'.heap.size:=by
 obtain⟨y1,hy1⟩:∃z,z=y.alloc (.cells #[.int .i64 x.l,.slice A' x.r.length c',.int .i64 x.p] 48):=⟨_,rfl⟩
 have hb1:Below y.heap.size y y1:=by rw[hy1];exact(Below.refl _ y).alloc (Nat.le_refl _) _
 have hs1:y1.heap.size=y.heap.size+1:=by rw[hy1];simp
 have hbx:y1.heap[y.heap.size]?=some (.cells #[.int .i64 x.l,.slice A' x.r.length c',.int .i64 x.p] 48 (0,0)):=by rw[hy1];exact heap_alloc_new y _
 have hbk:=aC hb1 hkp;have hG1:=h.below hb1;have hl:s.length=n:=h.l;obtain⟨l,r,p⟩:=x;obtain⟨m,rfl⟩:∃m:Nat,l=(m:Int):=⟨l.toNat,by have:=hx.l0;simp only at this;omega⟩
 simp only at hr hbx ⊢;have hmn:m<n:=by have:=hx.l1;simp only at this;omega
 have HE:Hid (Gm.firstN1 nu s ⟨(m:Int),r,p⟩=Gm.addN s m (Gm.ofN nu s 0 r)):=aA (by unfold Gm.firstN1;simp);rw[HE.o];have hv:Gm.ofN nu s 0 r<4294967296:=Gm.U32.ofN hU (by decide) hx.t;have HOF:=aA (fun(z:World) (hz:Below y1.heap.size y1 z)=>zhl r 0 nu s A' A1 (some ⟨gk,0,none⟩) c' c1 ck B y.heap.size (gk+1) z ((hr.below hb1 hB).below hz (by omega)) ((h1.below hb1 (Nat.le_refl _)).below hz (by omega)) ((hG1.u.below hz hG1.u.lt).rd (by omega)) (by have:=hz.size;omega) (by have:=hz.size;omega) (by have:=hz.size;have:=hG1.u.lt;omega) hx.i hx.t (fun z hz h=>by rw[hl];exact hx.n z hz h) (by rw[hnu,hl]) hU (by decide) (by have:=hx.c;simp only at this;omega));rw[hnu,hl]at HOF;have HAD:=aA (fun(z:World) (hz:Below y1.heap.size y1 z)=>ziS w z gk n ck s b m (Gm.ofN nu s 0 r) hmn hv hU (hG1.below hz));generalize Gm.ofN nu s 0 r=v at *;have HSZ:=aA hs1;have HKN:=aA (And.intro hne hkw);have HG:=aA (And.intro h.k h.hs);have q0:=fun z:zh2 y.heap.size kp y1=>cell_of_row z.1 _ 0 _ _ _ (z.2.1.trans hbx);have q1:=fun z:zh2 y.heap.size kp y1=>cell_of_row z.1 _ 1 _ _ _ (z.2.1.trans hbx);have q3:=fun z:zh2 y.heap.size kp y1=>cell_of_row z.1 _ 0 _ _ _ (z.2.2.trans hbk);have q4:=fun z:zh2 y.heap.size kp y1=>cell_of_row z.1 _ 1 _ _ _ (z.2.2.trans hbk);have HBX:=aA hbx;have HBK:=aA hbk;clear hr h1 hx hU hv hmn hl hb1 hG1 h hkp hB hnu hs1 HE hbx hbk hne hkw
 go_enter Tryz.func153,Tryz.ntmps153
 go_upto_region 1 with fail
 rw[<-hy1];clear hy1;refine CalmN.region_tree (fun x=>∃z:zh2 y.heap.size kp y1,x=z.1) (.one [0,1,2,3,4,5] 6 (.one [] 7 (.fin []))) (by kernel_rfl) (by kernel_rfl) (fun _ _ d _ _ h=>by cases d <;> exact h) ⟨⟨y1.drew,rfl,rfl⟩,rfl⟩ ?_;simp only[CalmN.wpT,CalmN.wpSt,CalmN.pickOps,List.getElem?_toArray,List.getElem?_cons_zero,List.getElem?_cons_succ];repeat (go_big_quiet_step (fail))
 refine wpQuiet_nil ?_;have HBD:Hid (Below y1.heap.size y1 y1.drew):=aA (aB (Below.refl _ _) 1);obtain⟨yd,hyd⟩:∃z,z=y1.drew:=⟨_,rfl⟩
 rw[<-hyd]at HBD ⊢;clear hyd q0 q1 q3 q4;intro KK hKK;rw[if_pos (by rfl)];go_wp2_with fail
 refine(HOF.o _ HBD.o).mono ?_;rintro _ w3 ⟨rfl,hb3⟩;have HB3:=aA (HBD.o.trans (hb3.mono HBD.o.size));clear hb3;go_wp2_with fail
 have hS3:∃z:zh2 y.heap.size kp y1,w3=z.1:=⟨⟨w3,HB3.o.block _ (by have:=HSZ.o;omega),HB3.o.block _ (Array.getElem?_eq_some_iff.1 HBK.o).1⟩,rfl⟩
 refine hKK _ _ hS3 (fun x=>∃z:zh2 y.heap.size kp y1,x=z.1) (fun _ h=>h) hS3 ?_;clear hKK hS3;refine wpQuiet_nil ?_;intro KK hKK;rw[if_pos (by rfl)];go_wp2_with fail
 refine(HAD.o _ HB3.o).mono ?_;rintro _ w4 ⟨rfl,hg4,hz4,hb4⟩;have HG4:=aA hg4;have HZ4:Hid (y.heap.size<=w4.heap.size):=aA (by rw[hz4];have:=HB3.o.size;have:=HSZ.o;omega);have hS4:∃z:zh2 y.heap.size kp y1,w4=z.1:=⟨⟨w4,(hb4 _ (by have:=HG.o;have:=HSZ.o;omega) (by have:=HG.o;have:=HSZ.o;omega)).trans (HB3.o.block _ (by have:=HSZ.o;omega)),(hb4 _ HKN.o.1 (by have:=HKN.o;omega)).trans (HB3.o.block _ (Array.getElem?_eq_some_iff.1 HBK.o).1)⟩,rfl⟩
 clear hg4 hz4 hb4;go_wp2_with fail
 refine hKK _ _ hS4 (fun x=>∃z:zh2 y.heap.size kp y1,x=z.1) (fun _ h=>h) hS4 ?_;clear hKK hS4;refine wpQuiet_nil ?_;go_wp2;go_end0
 exact⟨rfl,HG4.o,HZ4.o⟩
end Go.Proofs.YtcmhaemaophplaaGreat
