/- Part of the proofs over this program: AuSort, AuClos, AuText, AuSt, AuNum, LkVisit, SetR, FstFn, FstGrow, FstKnown. -/
import Derived.Test.YtjjbaehamplnaaaGreatMJ
set_option linter.all false
namespace Go
def DR:=@List.length_reverse
end Go
set_option maxRecDepth 100000
set_option maxHeartbeats 40000000
variable {A:Option Go.Addr} {B D M N N' NE base base' g i n:Nat} {G:Go.Proofs.YtjjbaehamplnaaaGreat.Gm.Gr} {P:Go.Program} {cs:Array Go.Value} {fr:Nat×Nat} {v:Go.Value} {w w':Go.World} {xs:List Go.Value} {z:Int}
namespace Go.Proofs.YtjjbaehamplnaaaGreat
open Go.RowKit
theorem zk3 (a b r:Int) (hr:(if a=0 then b else a)=r) (g:Nat) (w:World) (h0:w.cell? ⟨g,0,none⟩=some (.int .i64 a)) (h1:w.cell? ⟨g,1,none⟩=some (.int .i64 b)) :
  Calls Tryz.prog 185 #[.slice (some ⟨g,0,none⟩) 2 2] w fun e w'=>e=.returned (.int .i64 r)/\w'=w:=by
 by_cases ha:a=0
 ·rw[Ap ha]at hr;subst ha hr;by_cases hb:b=0
  ·subst hb
   go_enter Tryz.func185,Tryz.ntmps185
   go_wp2;go_loopw [8] (fun vi wr=>∃k:Nat,k<=2/\vi=.int .i64 k/\wr=w) (fun vi _=>2-(intOf vi).toNat)
   case atStart=>exact⟨0,by omega,rfl,by trivial⟩
   case round =>
    obtain⟨k,hk,rfl,rfl⟩:=hrel;by_cases aa:k<2
    ·have hc:wr.cell? ⟨g,k,none⟩=some (.int .i64 0):=by
      match k,aa with
      | 0,_=>exact h0
      | 1,_=>exact h1
     clear h0 h1;go_wp2;go_roundw
     case rel=>exact⟨k+1,aa,by go_num,by trivial⟩
     case measure=>simp[intOf];omega
    ·have:¬(k:Int)<2:=by omega
     go_wp2;go_ret
     exact⟨rfl,rfl⟩
  ·have hq:(b != 0)=true:=by rw[Du];exact hb
   clear hb
   go_enter Tryz.func185,Tryz.ntmps185
   go_wp2;go_loopw [8] (fun vi wr=>∃k:Nat,k<=1/\vi=.int .i64 k/\wr=w) (fun vi _=>2-(intOf vi).toNat)
   case atStart=>exact⟨0,by omega,rfl,by trivial⟩
   case round =>
    obtain⟨k,hk,rfl,rfl⟩:=hrel;by_cases aa:k=0
    ·subst aa;clear h1;go_wp2;go_roundw
     case rel=>exact⟨1,by omega,by go_num,by trivial⟩
     case measure=>simp[intOf]
    ·obtain rfl:k=1:=by omega
     clear h0;go_wp2;go_ret
     exact⟨rfl,rfl⟩
 ·rw[AB ha]at hr;subst hr;have hq:(a != 0)=true:=by rw[Du];exact ha
  clear h1 ha
  go_enter Tryz.func185,Tryz.ntmps185
  go_wp2;go_loopw [8] (fun vi wr=>vi=.int .i64 0/\wr=w) (fun _ _=>0)
  case atStart=>exact⟨rfl,by trivial⟩
  case round =>
   obtain⟨rfl,rfl⟩:=hrel;go_wp2;go_ret
   exact⟨rfl,rfl⟩
namespace Au
def cmpI (x y:It):Int:=if Lib.compareInt x.1 y.1=0 then Lib.compareInt x.2 y.2 else Lib.compareInt x.1 y.1
theorem cmpI_lt (x y:It):ltOf cmpI x y=lt x y:=by
 unfold ltOf cmpI Lib.compareInt lt;rw[Bn];simp only[AV,CI,AQ];split <;> split <;> (try split) <;> (try split) <;> omega
end Au
theorem zev (x y:Au.It) (W:World) :
  Calls Tryz.prog 144 #[itV x,itV y] W fun e w'=>e=.returned (.int .i64 (Au.cmpI x y))/\∃q os',w'=Go.Sort.grow (W.drewN q) os':=by
 have ad:=aA (fun(w:World)=>Tryz.cmp_Compare_int x.1 y.1 w);have ae:=aA (fun(w:World)=>Tryz.cmp_Compare_int x.2 y.2 w);have HE:Hid (Au.cmpI x y=if Lib.compareInt x.1 y.1=0 then Lib.compareInt x.2 y.2 else Lib.compareInt x.1 y.1):=aA rfl;obtain⟨wb,ab⟩:∃z,z=(W.alloc (.cells #[.int .i64 x.1,.int .i64 x.2] 61)).alloc (.cells #[.int .i64 y.1,.int .i64 y.2] 61):=⟨_,rfl⟩
 have HT:Hid (aW 61 61 W #[.int .i64 x.1,.int .i64 x.2] #[.int .i64 y.1,.int .i64 y.2] wb):=aA (by rw[ab];exact aW.start _ _ _ _ _);have HG:Hid (∃os',wb=Go.Sort.grow W os'):=aA ⟨_,by rw[ab,Go.Sort.alloc_eq_grow,Go.Sort.alloc_eq_grow,Go.Sort.grow_grow]⟩;have hz:W.heap.size+2<=wb.heap.size:=HT.o.size;have HO:=aA (fun(g:Nat) (w:World)=>zk3 (Lib.compareInt x.1 y.1) (Lib.compareInt x.2 y.2) (Au.cmpI x y) HE.o.symm g w);generalize Au.cmpI x y=r at *;generalize Lib.compareInt x.1 y.1=c1 at *;generalize Lib.compareInt x.2 y.2=c2 at *;clear HE
 go_enter Tryz.func144,Tryz.ntmps144
 go_upto_region 1 with fail
 rw[<-ab];clear ab;have q0:∀z:Calm.On wb.heap.size wb,z.1.cell? ⟨W.heap.size,0,none⟩=some (.int .i64 x.1):=fun z=>(HT.o.on z.2).c1 0 _ rfl;have q1:∀z:Calm.On wb.heap.size wb,z.1.cell? ⟨W.heap.size,1,none⟩=some (.int .i64 x.2):=fun z=>(HT.o.on z.2).c1 1 _ rfl;have q2:∀z:Calm.On wb.heap.size wb,z.1.cell? ⟨W.heap.size+1,0,none⟩=some (.int .i64 y.1):=fun z=>(HT.o.on z.2).c2 0 _ rfl;have q3:∀z:Calm.On wb.heap.size wb,z.1.cell? ⟨W.heap.size+1,1,none⟩=some (.int .i64 y.2):=fun z=>(HT.o.on z.2).c2 1 _ rfl;have f:=zbf wb;have ac:Hid (∀o:Obj,∃z:Calm.On wb.heap.size wb,wb.drew.alloc o=z.1):=aA (fun o=>⟨⟨wb.drew.alloc o,(aB (Aq _ _) 1).alloc (Ad _) o⟩,rfl⟩);refine CalmN.region_tree (fun x=>∃z:Calm.On wb.heap.size wb,x=z.1) (.one [0,1,2,3,5,6,7,8] 4 (.one [] 9 (.one [] 10 (.one [] 11 (.fin [12]))))) (by kernel_rfl) (by kernel_rfl) (fun _ _ d _ _ h=>by cases d <;> exact h) f.o ?_;simp only[CalmN.wpT,CalmN.wpSt,CalmN.pickOps,Am,Af,Ah];repeat (go_big_quiet_step (fail))
 refine Aj ?_;have HD:Hid (∃os',wb.drew=Go.Sort.grow (W.drewN 1) os'):=aA (by obtain⟨os',e⟩:=HG.o;exact⟨os',by rw[e];rfl⟩);clear q0 q1 q2 q3 HG;generalize wb.drew=wd at *;intro KK b;rw[Ap (by rfl)];go_wp2_with fail
 refine(ad.o _).mono ?_;rintro _ wd ⟨rfl,rfl⟩;go_wp2_with fail
 refine b _ _ f.o _ (fun _ h=>h) f.o ?_;clear b;refine Aj ?_;intro KK b;rw[Ap (by rfl)];go_wp2_with fail
 refine(ae.o _).mono ?_;rintro _ wd ⟨rfl,rfl⟩;go_wp2_with fail
 refine b _ _ f.o _ (fun _ h=>h) f.o ?_;clear b;refine Aj ?_;intro KK b;rw[Ap (by rfl)];go_wp2_with fail
 refine b _ _ (ac.o _) _ (fun _ h=>h) (ac.o _) ?_;clear b;refine Aj ?_;intro KK b;rw[Ap (by rfl)];have aa:=Az wd (.cells #[.int .i64 c1,.int .i64 c2] 3);have af:=aA (HO.o wd.heap.size _ (Aw _ _ 0 _ _ _ aa) (Aw _ _ 1 _ _ _ aa));clear aa;go_wp2_with fail
 refine af.o.mono ?_;rintro _ wz ⟨rfl,ag⟩;subst ag;go_wp2_with fail
 refine b _ _ (ac.o _) _ (fun _ h=>h) (ac.o _) ?_;clear b;repeat (go_big_quiet_step (fail))
 refine Aj ?_;obtain⟨os',e⟩:=HD.o;have HF:Hid (∃q os',wd.alloc (.cells #[.int .i64 c1,.int .i64 c2] 3)=Go.Sort.grow (W.drewN q) os'):=aA ⟨1,_,by rw[Go.Sort.alloc_eq_grow,e,Go.Sort.grow_grow]⟩;clear e;go_wp2;go_ret
 exact⟨rfl,HF.o⟩
theorem zfi (ts:List Au.It):Go.Sort.flatK prF 2 ts.toArray=(ts.flatMap prF).toArray:=by
 refine Go.Sort.ext_get! (by simp[zjH aJ]) fun t ht=>?_;rw[Go.Sort.size_flatK]at ht;rw[Go.Sort.get_flatK _ _ _ _ ht];have aa:t / 2<ts.length:=by simpa[Nat.div_lt_iff_lt_mul] using ht
 have h:=qat aJ ts (t / 2) (t % 2) aa (Nat.mod_lt _ (by decide));rw[show t / 2*2+t % 2=t by omega]at h;have e1:ts.toArray[t / 2]! = ts[t / 2]:=by simp[aa]
 rw[e1];have hl:t<(ts.flatMap prF).length:=by rw[zjH aJ];omega
 have hm:t % 2<(prF ts[t / 2]).length:=by rw[aJ];omega
 rw[Ar hl,Ar hm]at h;injection h with h;rw[getElem!_pos (prF ts[t / 2]) (t % 2) hm,getElem!_pos (ts.flatMap prF).toArray t (by simpa using hl)]
 simpa using h.symm
theorem ziw:Go.Sort.SWO (ltOf Au.cmpI) where
 irrefl x:=by rw[Au.cmpI_lt];exact Au.lt_irr x
 trans x y z h1 h2:=by rw[Au.cmpI_lt]at *;exact Au.lt_trans h1 h2
 ntrans x y z h1 h2:=by
  rw[Au.cmpI_lt]at *;cases h:Au.lt x z
  ·rfl
  ·have a:¬Au.lt x y=true:=by rw[h1];decide
   have b:¬Au.lt y z=true:=by rw[h2];decide
   rw[Au.lt_iff]at h a b;omega
def Au.srt (xs:List Au.It):List Au.It:=xs.mergeSort fun x y=>!Au.lt y x
theorem Au.srt_ok {xs:List Au.It} (h:xs.Nodup):Au.Srt (Au.srt xs)/\∀x,x∈Au.srt xs↔x∈xs:=by
 have hp:(Au.srt xs).Perm xs:=List.mergeSort_perm _ _;refine⟨Au.srt_of h hp ?_,fun x=>hp.mem_iff⟩
 have hs:=List.pairwise_mergeSort (le:=fun x y=>!Au.lt y x) (fun a b c h1 h2=>by
  simp only[Ec]at *;have a1:¬Au.lt b a=true:=by rw[h1];decide
  have b1:¬Au.lt c b=true:=by rw[h2];decide
  cases q:Au.lt c a
  ·rfl
  ·rw[Au.lt_iff]at q a1 b1
   omega) (fun a b=>by
  cases q:Au.lt b a
  ·rfl
  ·have:Au.lt a b=false:=by
    cases k:Au.lt a b
    ·rfl
    ·rw[Au.lt_iff]at q k;omega
   rw[this];rfl) xs
 exact hs.imp fun {a b} h=>by simpa using h
theorem zfS {cap:Nat} {xs ts:List Au.It} (h:aK 61 2 prF w base (.slice (some ⟨g,0,none⟩) xs.length cap) xs) (hl:ts.length=xs.length) (n:Nat) (os:Array Obj) :
  aK 61 2 prF (sortWorldK prF 2 w g 0 n ts.toArray os) base (.slice (some ⟨g,0,none⟩) xs.length cap) ts/\w.grownBy (sortWorldK prF 2 w g 0 n ts.toArray os) (some g):=by
 have hF:(ts.flatMap prF).length=xs.length*2:=by rw[zjH aJ,hl]
 rcases h.2 with⟨e,h0⟩|⟨g',cap',cur,e,hb,hg,hn,hm,hs,ht⟩
 ·cases e
 ·injection e with e1 e2 e3;injection e1 with e1;injection e1 with e1;subst e1 e3;unfold sortWorldK Go.Sort.putRowK aK;rw[zfi];have hq:(ts.flatMap prF).length=ts.length*2:=zjH aJ ts;generalize ts.flatMap prF=F at *;have aa:g<w.heap.size:=(Ac.1 hg).1;refine⟨?_,⟨rfl,rfl,rfl,by simp,fun k hk ab=>?_⟩⟩
  ·refine⟨hq,.inr ⟨g,cap,Go.Sort.putCells id 0 F.toArray cur,by rw[hl],hb,?_,by omega,hm,by simp[Go.Sort.putCells,hs],?_⟩⟩
   ·rw[Go.Sort.heap_grow_old _ _ (by simpa using aa)];simp[Go.Sort.putRow,Go.Sort.mapBlock,Go.Sort.ahead,Array.getElem?_modify,hg,Go.Sort.onCells]
   ·rw[hl,<-hF];have ac:F.length<=cur.size:=by rw[hF,hs];exact DK 2 hn
    apply CX;intro j;by_cases hj:j<F.length
    ·rw[CP hj,D9];simp[Go.Sort.putCells,hj,show j<cur.size by omega]
    ·rw[List.getElem?_take_eq_none (by omega),B6 (by omega)]
  ·rw[Go.Sort.heap_grow_old _ _ (by simpa using hk)]
   have:g≠k:=fun e=>ab (by rw[e])
   simp[Go.Sort.putRow,Go.Sort.mapBlock,Go.Sort.ahead,Array.getElem?_modify,this]
theorem zhH {cap:Nat} {xs:List Au.It} (h:aK 61 2 prF w base (.slice (some ⟨g,0,none⟩) xs.length cap) xs):Go.Sort.HoldsK prF 2 w g 0 xs.toArray:=by
 rcases h.2 with⟨e,h0⟩|⟨g',cap',cur,e,hb,hg,hn,hm,hs,ht⟩
 ·cases e
 ·injection e with e1 e2 e3;injection e1 with e1;injection e1 with e1;subst e1 e3;unfold Go.Sort.HoldsK;rw[zfi];intro j hj;have hj:j<(xs.flatMap prF).length:=by simpa using hj
  have aa:j<xs.length*2:=by rw[<-zjH aJ];exact hj
  refine⟨?_,AD w g _ _ _ hg⟩;rw[Bu,Aw w g j _ _ _ hg];have h2:(cur.toList.take (xs.length*2))[j]?=(xs.flatMap prF)[j]?:=by rw[ht]
  rw[CP aa,D9]at h2;rw[h2,getElem!_pos (xs.flatMap prF).toArray j (by simpa using hj),Ar hj];simp
theorem zij {xs:List Au.It} (h:aK 61 2 prF w base v xs) (hl:xs.length<=1000000) :
  Calls Tryz.prog 143 #[v,.func (Fn.func 144) #[] #[]] w fun e w'=>e=.returned (.tuple #[])/\aK 61 2 prF w' base v (Au.srt xs)/\w.grownBy w' v.ownBlock:=by
 have ab:(Au.srt xs).length=xs.length:=List.length_mergeSort _;rcases Dh xs.length with h0|h0
 ·have hx:xs=[]:=Bv h0;subst hx;obtain⟨A,c,rfl,_⟩:=aK.form h aJ;refine(AnyF.slices_SortFunc_none Tryz.sortIt A c _ w).mono ?_;rintro e w' ⟨rfl,rfl⟩;exact⟨rfl,by rw[show Au.srt []=[] by simp[Au.srt]];exact h,AI _ _⟩
 ·obtain⟨g,c,rfl,ac,_,ad⟩:=aK.addr h (by omega);have eg:∀args w,(callFunc 144 args).run Tryz.prog w=.ok (.enter 144 args) w:=enters_of Tryz.func144 (by kernel_rfl) rfl
  have aa:=AnyQ.slices_SortFunc_total Tryz.sortIt 2 (fun _=>by kernel_rfl) (fun _=>by kernel_rfl) prF aJ zdB Au.cmpI ziw 144 #[] g 0 c xs.toArray w eg (fun _ _ _ _ x y=>zev x y _) (zhH h) (aK.lt h) (by simp;omega) (fun x y h1 h2=>by
   rw[Au.cmpI_lt]at h1 h2;exact BO fun hn=>by rw[Au.lt_or h1 hn]at h2;cases h2)
  have e1:xs.toArray.size=xs.length:=by simp
  rw[e1]at aa;refine Calls.mono aa ?_;rintro e w' ⟨rfl,n,os,rfl⟩
  have e2:(xs.toArray.toList.mergeSort fun x y=>!(ltOf Au.cmpI) y x)=Au.srt xs:=by
   unfold Au.srt
   congr 1
   funext x y
   rw[Au.cmpI_lt]
  rw[e2];obtain⟨h1,h2⟩:=zfS h ab n os;exact⟨rfl,h1,h2⟩
theorem zgh (v:Value) (G:Gm.Gr) (B:Nat) (l:List Au.It) (A:Option Addr) (c BL:Nat) (w:World) (hg:aQ w B v G) (hf:Gm.Fit G) (a5:Gm.Ok G) (hB:B<=w.heap.size) (hl:RdQ 2 prF w BL A l) (a6:BL<=w.heap.size) (a9:∀x∈l,Gm.In x.1/\Gm.In x.2) (ao:l.length<=1000) :
  Calls Tryz.prog 94 #[v,.slice A l.length c] w fun e w'=>∃v',e=.returned v'/\aK 61 2 prF w' w.heap.size v' (Au.clo G (l.filter (Au.isI G)))/\Below w.heap.size w w':=by
 have HG:=aA hg;have HF:=aA hf;have H:=aA a5;have N:=aA hB;have HL:=aA hl;have br:=aA a6;have ba:=aA a9;obtain⟨AT,cT,AN,cN,AR,cR,rfl,_⟩:=hg;have cj:∀(fn:Fn) (first cap:Array Value) (w:World),(Instr.makeFunc fn first cap).run Tryz.prog w=.ok (.func fn first cap) w:=fun _ _ _ _=>rfl;have bs:=fun t w=>EP (P:=Tryz.prog) t w;obtain⟨w1,X⟩:∃y,y=w.alloc (.cells #[.slice AT G.ts.length cT,.slice AN G.ns.length cN,.slice AR G.rs.length cR,.int .i64 G.st] 26):=⟨_,rfl⟩
 have ap:w1.heap.size=w.heap.size+1:=by rw[X];simp
 have b1:Below w.heap.size w w1:=by rw[X];exact(Aq _ _).alloc (Ad _) _
 have g1:w1.heap[w.heap.size]?=some (.cells #[.slice AT G.ts.length cT,.slice AN G.ns.length cN,.slice AR G.rs.length cR,.int .i64 G.st] 26 (0,0)):=by rw[X];exact Az w _
 obtain⟨w2,Z⟩:∃y,y=w1.alloc (.cells #[.slice none 0 0] 56):=⟨_,rfl⟩
 have aq:w2.heap.size=w.heap.size+2:=by rw[Z];simp[ap]
 have b2:Below w1.heap.size w1 w2:=by rw[Z];exact(Aq _ _).alloc (Ad _) _
 have g2:w2.heap[w.heap.size+1]?=some (.cells #[.slice none 0 0] 56 (0,0)):=by rw[Z,<-ap];exact Az w1 _
 obtain⟨w3,F⟩:∃y,y=w2.alloc (.map #[] 0):=⟨_,rfl⟩
 have bb:w3.heap.size=w.heap.size+3:=by rw[F];simp[aq]
 have b3:Below w2.heap.size w2 w3:=by rw[F];exact(Aq _ _).alloc (Ad _) _
 have g3:Mw.MapIs itE w3 (w.heap.size+2) []:=by rw[F,<-aq];exact Mw.MapIs.made itE w2
 obtain⟨w4,O⟩:∃y,y=w3.alloc (.cells #[.map (some (w.heap.size+2))] 217):=⟨_,rfl⟩
 have b4:Below w3.heap.size w3 w4:=by rw[O];exact(Aq _ _).alloc (Ad _) _
 have g4:w4.heap[w.heap.size+3]?=some (.cells #[.map (some (w.heap.size+2))] 217 (0,0)):=by rw[O,<-bb];exact Az w3 _
 have bu:Hid (Below w.heap.size w w4):=aA (((b1.trans (b2.mono (by omega))).trans (b3.mono (by omega))).trans (b4.mono (by omega)));have bc:=aC b4 (aC b3 (aC b2 g1));have bd:=aA bc;have bf:Hid (AdSt w4 w.heap.size (w.heap.size+1) (w.heap.size+3) (w.heap.size+2) (Au.addsX [] ([].filter (Au.isI G)))):=aA ⟨⟨_,aC b4 (aC b3 g2),aK.nil _ _⟩,g4,⟨[],g3.block (b4.block _ g3.lt),fun x=>by simp[Mw.asc,Au.addsX]⟩,by omega,by omega,by omega⟩;have ck:Hid (w.heap.size+4<=w4.heap.size):=aA (by have:=(Ac.1 g4).1;omega);clear hf a5 hB hl a6 a9 b1 b2 b3 b4 g1 g2 g3 g4 bc;have ab:(l.length:Int)<=1000:=by omega
 go_enter Tryz.func94,Tryz.ntmps94
 go_upto_region 1 with fail
 rw[<-X];clear X;go_upto_region 2 with fail
 rw[<-Z];clear Z;go_upto_region 3 with fail
 rw[<-F];rw[<-O];clear F O ap aq bb bs;rw[show w.heap.size+2+1=w.heap.size+3 from rfl];obtain⟨pT,ar⟩:∃p,p=w.heap.size+3:=⟨_,rfl⟩
 obtain⟨pA,au⟩:∃p,p=w.heap.size+1:=⟨_,rfl⟩
 obtain⟨M,hM⟩:∃p,p=w.heap.size+2:=⟨_,rfl⟩
 rw[<-ar,<-au,<-hM]at bf;rw[<-ar,<-au,<-hM];clear ar au hM;go_wp2;go_loopw [17] (fun vi wr=>∃i:Nat,i<=l.length/\vi=.int .i64 i/\Hid (AdSt wr w.heap.size pA pT M (Au.addsX [] ((l.take i).filter (Au.isI G))))/\Hid (Below w.heap.size w wr)/\Hid (KeepI w4 wr)) (fun vi _=>l.length-(intOf vi).toNat)
 case atStart=>exact⟨0,AX _,rfl,by simpa using bf,bu,aA (KeepI.refl _)⟩
 case round =>
  obtain⟨i,hi,rfl,HA,HW,HK⟩:=hrel;by_cases r:i<l.length
  ·obtain⟨g,o,rfl,bg,hc⟩:=HL.o (by omega);have av:g<w.heap.size:=Ao bg br.o;have k0:wr.cell? ⟨g,o+i*2,none⟩=some (.int .i64 (l[i]).1):=(HW.o.cell (p:=⟨g,o+i*2,none⟩) av).trans (hc i r 0 _ rfl);have k1:wr.cell? ⟨g,o+i*2+1,none⟩=some (.int .i64 (l[i]).2):=(HW.o.cell (p:=⟨g,o+i*2+1,none⟩) av).trans (hc i r 1 _ rfl);have bv:=aA (ba.o _ (Ay r));have af:Hid (l.take (i+1)=l.take i++[l[i]]):=aA (AO r)
   have bh:=aA (show(Au.addsX [] ((l.take i).filter (Au.isI G))).length<=100000 by
    have h1:=Au.addsX_up (xs:=[]) (zs:=(l.take i).filter (Au.isI G));have h2:=Ct (Au.isI G) (l.take i);rw[Bc]at h2;simp only[Ey]at h1
    omega)
   obtain⟨wi,ag⟩:∃y,y=wr.alloc (.cells #[.int .i64 (l[i]).1,.int .i64 (l[i]).2] 61):=⟨_,rfl⟩
   have aw:Hid (Below wr.heap.size wr wi):=aA (by rw[ag];exact(Aq _ _).alloc (Ad _) _);have ah:wi.heap[wr.heap.size]?=some (.cells #[.int .i64 (l[i]).1,.int .i64 (l[i]).2] 61 (0,0)):=by rw[ag];exact Az wr _
   have ax:=aA ah;have y0:=aM ah;have y1:=aR ah;have f:w.heap.size<=wr.heap.size:=HW.o.size;have U:=aA (HW.o.trans (aw.o.mono f));have ay:=aA (HK.o.trans (.below aw.o));have bi:=aA (HA.o.below aw.o);have C:=ay.o.keep _ _ _ _ bd.o (by decide) (by decide);have z0:=aM C;have z1:=aR C;have z2:=bF C;have z3:=bQ C;have ai:=aA (zik _ G B l[i] wi (HG.o.below U.o N.o) HF.o (Ag N.o U.o.size));clear hc ah C av bg;generalize l[i]=x at *;go_upto_region 7 with fail
   rw[<-ag];clear ag k0 k1;cases hI:Au.isI G x
   ·have HE:Hid ((l.take (i+1)).filter (Au.isI G)=(l.take i).filter (Au.isI G)):=aA (by rw[af.o,CF,Cy,AB (by rw[hI];decide)];simp);rw[hI]at ai;clear hI af;go_wp2_with fail
    refine ai.o.mono ?_;rintro _ w2 ⟨rfl,b⟩;have I:=aA (bi.o.below b);have D:=aA (U.o.trans (b.mono U.o.size));have J:=aA (ay.o.trans (.below b));clear b y0 y1 z0 z1 z2 z3;go_wp2;go_roundw
    case rel=>exact⟨i+1,r,by go_num,aA (by rw[HE.o];exact I.o),D,J⟩
    case measure=>simp[intOf];omega
   ·have HE:Hid ((l.take (i+1)).filter (Au.isI G)=(l.take i).filter (Au.isI G)++[x]):=aA (by rw[af.o,CF,Cy,Ap hI];simp);rw[hI]at ai;clear hI af;go_wp2_with fail
    refine ai.o.mono ?_;rintro _ w2 ⟨rfl,b⟩;have I:=aA (bi.o.below b);have D:=aA (U.o.trans (b.mono U.o.size));have J:=aA (ay.o.trans (.below b));have aa:=aC b ax.o;have y0:=aM aa;have y1:=aR aa;have bw:=aA (zfw w2 w.heap.size pA pT M _ x I.o bv.o bh.o);clear b aa z0 z1 z2 z3;go_wp2_with fail
    refine bw.o.mono ?_;rintro _ w3 ⟨rfl,bj,bk,bl⟩;have bx:=aA bj;have bz:=aA (D.o.trans bk);have bD:=aA (J.o.trans bl);clear bj bk bl y0 y1;go_wp2;go_roundw
    case rel=>exact⟨i+1,r,by go_num,aA (by rw[HE.o,Au.addsX_snoc];exact bx.o),bz,bD⟩
    case measure=>simp[intOf];omega
  ·obtain rfl:i=l.length:=by omega
   rw[Bo]at HA;have aj:Hid (∀x∈l.filter (Au.isI G),Au.isI G x=true):=aA (fun x hx=>(B7.1 hx).2);generalize az:l.filter (Au.isI G)=lf at *;have bM:=aA az;clear az;obtain⟨wo,bT⟩:∃wo:World,wo=wr:=⟨_,rfl⟩
   subst bT;clear ba HL ao ab;have bX:=aA (Au.PC.start G lf);generalize Au.addsX [] lf=xs0 at *;go_wp2;go_loopw [10] (fun vi wr=>∃(i:Nat) (xs:List Au.It),i<=xs.length/\vi=.int .i64 i/\Hid (Au.PC G lf i xs)/\Hid (AdSt wr w.heap.size pA pT M xs)/\Hid (Below w.heap.size w wr)/\Hid (KeepI w4 wr)) (fun vi _=>300-(intOf vi).toNat)
   case atStart=>exact⟨0,xs0,AX _,rfl,bX,HA,HW,HK⟩
   case round =>
    obtain⟨i,xs,hi,rfl,HP,HA,HW,HK⟩:=hrel;have az:xs.length<=287:=Ag (HP.o.le aj.o) (Au.allI_le H.o H.o.r40);obtain⟨v,h1,h2⟩:=HA.o.v;have H1:=aA h1;have H2:=aA h2;have f:w.heap.size<=wr.heap.size:=HW.o.size;have C:=HK.o.keep _ _ _ _ bd.o (by decide) (by decide);have ac:=aA C;by_cases r:i<xs.length
    ·obtain⟨g,c1,rfl,bZ,b0,_⟩:=aK.addr h2 (by omega);have cA:=aM h1;have k0:wr.cell? ⟨g,i*2,none⟩=some (.int .i64 (xs[i]).1):=aK.cellAt h2 aJ i 0 r _ rfl;have k1:wr.cell? ⟨g,i*2+1,none⟩=some (.int .i64 (xs[i]).2):=aK.cellAt h2 aJ i 1 r _ rfl;have a0:=aK.lt h2;have bm:=(Ac.1 h1).1;have b5:=(Ac.1 C).1;have b6:(i:Int)<(xs.length:Int):=by omega
     have E:Hid (Au.PC G lf (i+1) (Au.addsX xs (Au.addE G xs[i]))):=aA (HP.o.next (Ar r));have bn:Hid (Au.isI G xs[i]=true):=aA (Au.cl_is aj.o (HP.o.c _ (Ay r)));have b7:Hid (xs.length<=(Au.addsX xs (Au.addE G xs[i])).length):=aA Au.addsX_len;have b8:=aA (fun(y:World) (h:Below wr.heap.size wr y)=>zcQ _ G B xs[i] y (HG.o.below (HW.o.trans (h.mono f)) N.o) HF.o (Ag N.o (Ag f h.size)));have bh:=aA (show xs.length<=50000 by omega);have ak:Hid (∃m,xs.drop m=[]/\i+1<=xs.reverse.length):=aA ⟨_,DT,by rw[DR];exact r⟩;generalize xs[i]=x at *;generalize xs.length=n at *;clear h1 h2 C;go_upto_region 13 with fail
     have qA:∀z:Calm.On wr.heap.size wr,z.1.cell? ⟨pA,0,none⟩=some (.slice (some ⟨g,0,none⟩) n c1):=fun z=>(z.2.cell (p:=⟨pA,0,none⟩) bm).trans cA;have q0:∀z:Calm.On wr.heap.size wr,z.1.cell? ⟨g,i*2,none⟩=some (.int .i64 x.1):=fun z=>(z.2.cell (p:=⟨g,i*2,none⟩) a0).trans k0;have q1:∀z:Calm.On wr.heap.size wr,z.1.cell? ⟨g,i*2+1,none⟩=some (.int .i64 x.2):=fun z=>(z.2.cell (p:=⟨g,i*2+1,none⟩) a0).trans k1;have z0:=fun z:Calm.On wr.heap.size wr=>aM (aC z.2 ac.o);have z1:=fun z:Calm.On wr.heap.size wr=>aR (aC z.2 ac.o);have z2:=fun z:Calm.On wr.heap.size wr=>bF (aC z.2 ac.o);have z3:=fun z:Calm.On wr.heap.size wr=>bQ (aC z.2 ac.o);have b9:=zbf wr;clear k0 k1 cA;refine CalmN.region_tree (fun x=>∃z:Calm.On wr.heap.size wr,x=z.1) (.one [0,1,2,3,4] 5 (.fin [6,7,8,9,10])) (by kernel_rfl) (by kernel_rfl) (fun _ _ d _ _ h=>by cases d <;> exact h) b9.o ?_;simp only[CalmN.wpT,CalmN.wpSt,CalmN.pickOps,Am,Af,Ah];repeat (go_big_quiet_step (fail))
     refine Aj ?_;intro KK u;rw[Ap (by rfl)];go_wp2_with fail
     refine(b8.o wr.drew (aB (Aq _ _) 1)).mono ?_;rintro _ w2 ⟨rfl,b⟩;have b:Below wr.heap.size wr w2:=(aB (Aq _ wr) 1).trans b;have V:=zi2 b;have cl:=aA b;have al:=aA (Au.nxP_is bn.o);have I:=aA (HA.o.below b);have D:=aA (HW.o.trans (b.mono f));have J:=aA (HK.o.trans (.below b));have j:=aA (aC b ac.o);clear b qA q0 q1 z0 z1 z2 z3 bm a0 b5 f;cases hq:Au.nxP G x with
     | none =>
      have hE:=Au.addE_no (G:=G) (x:=x) (fun s hs=>by rw[<-al.o,hq]at hs;cases hs);rw[hE]at E;have E:Hid (Au.PC G lf (i+1) xs):=E;clear hE hq;go_wp2_with fail
      refine u _ _ V.o _ (fun _ h=>h) V.o ?_;clear u;repeat (go_big_quiet_step (fail))
      refine Aj ?_;go_wp2;go_roundw
      case rel=>exact⟨i+1,xs,by obtain⟨m,e,h⟩:=ak.o;rw[DR]at h;exact h,by go_num,E,I,D,J⟩
      case measure=>simp[intOf];omega
     | some s =>
      by_cases h0:s<0
      ·have hE:=Au.addE_beg (al.o.symm.trans hq) h0;rw[hE]at E b7;have ca:=Gm.has_iff.1 (Au.syms_mem.1 (Au.nx_in H.o bn.o (al.o.symm.trans hq)));have cb:=(Gm.nons_iff G).1 H.o.n;have ad:=aA (fun w=>zcR s w);rw[AJ h0]at ad;have cc:=aA (fun w=>zde s (by omega) (by omega) w);have a1:Hid (i+1<=(Au.addsX xs (Au.begT G (-1-s) G.rs.length)).length):=aA (by obtain⟨m,e,h⟩:=ak.o;rw[DR]at h;exact Ag h Au.addsX_len);have a2:=aA (zgi _ G B (-1-s) w2.drew w.heap.size pA pT M xs (HG.o.below (aB D.o 1) N.o) N.o (Ag H.o.r40 (by omega)) (I.o.below (aB (Aq _ _) 1)) (by obtain⟨m,e,h⟩:=ak.o;rw[DR]at h;have:=HP.o.le aj.o;have:=Au.allI_le H.o H.o.r40;omega));have z0:=fun z:Calm.OnB w.heap.size w2=>aM (z.2.trans j.o);have z1:=fun z:Calm.OnB w.heap.size w2=>aR (z.2.trans j.o);have z2:=fun z:Calm.OnB w.heap.size w2=>bF (z.2.trans j.o);have z3:=fun z:Calm.OnB w.heap.size w2=>bQ (z.2.trans j.o);have a3:Hid (∃z:Calm.OnB w.heap.size w2,w2.drew=z.1):=aA ⟨⟨w2.drew,rfl⟩,rfl⟩;clear hE hq ca cb h0;go_wp2_with fail
       refine u _ _ V.o _ (fun _ h=>h) V.o ?_;clear u;repeat (go_big_quiet_step (fail))
       refine Aj ?_;go_wp2_with fail
       refine(ad.o _).mono ?_;rintro _ w3 ⟨rfl,F⟩;subst F;go_wp2_with fail
       refine CalmN.region_tree (fun x=>∃z:Calm.OnB w.heap.size w3,x=z.1) (.one [0,1,3] 2 (.one [] 4 (.fin []))) (by kernel_rfl) (by kernel_rfl) (fun _ _ d _ _ h=>by cases d <;> exact h) a3.o ?_;simp only[CalmN.wpT,CalmN.wpSt,CalmN.pickOps,Am,Af,Ah];repeat (go_big_quiet_step (fail))
       refine Aj ?_;clear z0 z1 z2 z3;intro KK u;rw[Ap (by rfl)];go_wp2_with fail
       refine(cc.o _).mono ?_;rintro _ w4' ⟨rfl,O⟩;subst O;go_wp2_with fail
       refine u _ _ a3.o _ (fun _ h=>h) a3.o ?_;clear u;refine Aj ?_;intro KK u;rw[Ap (by rfl)];go_wp2_with fail
       refine a2.o.mono ?_;rintro _ w5 ⟨rfl,bo,am,ae⟩;have am:Below w.heap.size w3 w5:=(aB (Aq _ w3) 1).trans am;have ae:KeepI w3 w5:=(KeepI.below (aB (Aq _ w3) 1)).trans ae;have cd:=aA bo;have ce:=aA (D.o.trans am);have cf:=aA (J.o.trans ae);have bp:Hid (∃z:Calm.OnB w.heap.size w3,w5=z.1):=aA ⟨⟨w5,(ae.keep _ _ _ _ j.o (by decide) (by decide)).trans j.o.symm⟩,rfl⟩;clear bo am ae;go_wp2_with fail
       refine u _ _ bp.o _ (fun _ h=>h) bp.o ?_;clear u;refine Aj ?_;go_wp2;go_roundw
       case rel=>exact⟨i+1,_,a1.o,by go_num,E,cd,ce,cf⟩
       case measure=>simp[intOf];omega
      ·have hE:=Au.addE_no (G:=G) (x:=x) (fun s' hs=>by rw[<-al.o,hq]at hs;injection hs with hs;omega);rw[hE]at E;have E:Hid (Au.PC G lf (i+1) xs):=E;have ad:=aA (fun w=>zcR s w);rw[AM h0]at ad;clear hE hq h0;go_wp2_with fail
       refine u _ _ V.o _ (fun _ h=>h) V.o ?_;clear u;repeat (go_big_quiet_step (fail))
       refine Aj ?_;go_wp2_with fail
       refine(ad.o _).mono ?_;rintro _ w3 ⟨rfl,F⟩;subst F;go_wp2;go_roundw
       case rel=>exact⟨i+1,xs,by obtain⟨m,e,h⟩:=ak.o;rw[DR]at h;exact h,by go_num,E,I,D,J⟩
       case measure=>simp[intOf];omega
    ·obtain rfl:i=xs.length:=by omega
     obtain⟨A1,c1,rfl,bZ,b0,_⟩:=aK.form h2 aJ;have cA:=aM h1;have cg:=aA (zij h2 (by omega));have hD:=HP.o;obtain⟨hs,hm⟩:=Au.srt_ok hD.nd;have HD:=aA (Au.PC.done aj.o hD hs hm);have ch:=aA (fun k (e:(Value.slice A1 xs.length c1).ownBlock=some k)=>(Bs h2 k e).1);generalize xs.length=n at *;clear hD hs hm h1 h2 C;go_wp2_with fail
     refine cg.o.mono ?_;rintro _ w2 ⟨rfl,bq,a4⟩;have h3:=aI H2.o a4 H1.o fun cur=>aH (by decide);have cA:=aM h3;have ci:=aA bq;have D:=aA (HW.o.grown a4 f (fun k e=>ch.o k e));clear bq a4 h3;go_wp2;go_ret
     exact⟨_,rfl,by rw[bM.o,<-HD.o];exact ci.o,D.o⟩
theorem zfB (k:List Au.It) (A:Option Addr) (c B:Nat) (w:World) (hk:RdQ 2 prF w B A k) (hB:B<=w.heap.size) (hb:∀z∈Au.txt k,0<=z/\z<=255) (hl:k.length<=1000) :
  Calls Tryz.prog 93 #[.slice A k.length c] w fun e w'=>e=.returned (.string (K.str (Au.txt k)))/\Below w.heap.size w w':=by
 have HK:=aA hk;have HB:=aA hB;have aa:=aA hb;have aq:(k.length:Int)<=1000:=by omega
 clear hk hB hb
 go_enter Tryz.func93,Tryz.ntmps93
 go_wp2;go_loopw [3,8] (fun vb vi wr=>∃i:Nat,i<=k.length/\vi=.int .i64 i/\Hid (bP wr w.heap.size vb (Au.txt (k.take i)))/\Hid (Below w.heap.size w wr)) (fun _ vi _=>k.length-(intOf vi).toNat)
 case atStart=>exact⟨0,AX _,rfl,aA (bP.nil _ _),aA (Aq _ _)⟩
 case round =>
  obtain⟨i,hi,rfl,HO,HW⟩:=hrel;obtain⟨A1,c1,rfl,ar,au,ab⟩:=bP.form HO.o;by_cases b:i<k.length
  ·obtain⟨g,o,rfl,ai,hc⟩:=HK.o (by omega);have ae:g<w.heap.size:=Ao ai HB.o;have k0:wr.cell? ⟨g,o+i*2,none⟩=some (.int .i64 (k[i]).1):=(HW.o.cell (p:=⟨g,o+i*2,none⟩) ae).trans (hc i b 0 _ rfl);have k1:wr.cell? ⟨g,o+i*2+1,none⟩=some (.int .i64 (k[i]).2):=(HW.o.cell (p:=⟨g,o+i*2+1,none⟩) ae).trans (hc i b 1 _ rfl);have aj:Hid (Au.txt (k.take (i+1))=Au.txt (k.take i)++[(k[i]).1+1,(k[i]).2]):=aA (by rw[AO b,Au.txt_snoc]);have h1:=aa.o ((k[i]).1+1) (CK.2 ⟨k[i],Ay b,by simp⟩);have h2:=aa.o (k[i]).2 (CK.2 ⟨k[i],Ay b,by simp⟩);have ak:Hid ((Au.txt (k.take i)).length<=2000):=aA (by rw[Au.txt_len,Bc];omega);clear hc ab;generalize k[i]=x at *;generalize Au.txt (k.take i)=t at *;have av:IntKind.i64.wrap (x.1 - -1)=x.1+1:=by rw[Cr _ (by omega)];omega
   have aw:IntKind.u8.wrap (x.1+1)=x.1+1:=IntWalk.u8_in _ (by omega);have ax:IntKind.u8.wrap x.2=x.2:=IntWalk.u8_in _ (by omega);have af:=aA ((HO.o.alloc (.cells #[.int .i64 x.1,.int .i64 x.2] 61)).alloc (zdT [x.1+1,x.2]));have ac:=(znE (wr.alloc (.cells #[.int .i64 x.1,.int .i64 x.2] 61)) [x.1+1,x.2]).1;rw[show(wr.alloc (.cells #[.int .i64 x.1,.int .i64 x.2] 61)).heap.size=wr.heap.size+1 by simp]at ac;have al:=aA ac;clear ac;have ad:Hid (Below w.heap.size w ((wr.alloc (.cells #[.int .i64 x.1,.int .i64 x.2] 61)).alloc (zdT [x.1+1,x.2]))):=aA ((HW.o.alloc HW.o.size _).alloc (by have:=HW.o.size;simp;omega) _);have HZ:=aA HW.o.size;go_wp2_with (at_builtin;refine zju rfl (.tmp 12) (.tmp 20) _ rfl Tryz.underlying72 w.heap.size _ t rfl af.o _ 2 2 _ [x.1+1,x.2] rfl rfl al.o (by have:=ak.o;simp;omega) ad.o.size ?_;intro v2 w2 ag ah)
   have am:=aA ag;have ao:=aA (ad.o.grown ah ad.o.size (fun k e=>(Bs af.o k e).1));clear ag ah;go_roundw
   case rel=>exact⟨i+1,b,by go_num,aA (by rw[aj.o];exact am.o),ao⟩
   case measure=>simp[intOf];omega
  ·obtain rfl:i=k.length:=by omega
   rw[Bo]at *;have ap:Hid (K.Bytes (Au.txt k)):=aA (fun z hz=>by have:=aa.o z hz;omega);have cv:=zbl ab ap.o c1;generalize he:Au.txt k=t at *;have HE:=aA he;clear ab he;go_wp2;go_ret
   exact⟨by rw[HE.o];rfl,HW.o⟩
def zd2 (T:TypeId) (w:World) (base N:Nat) (A:Option Addr) (xs:List (Int×Int)):Prop :=
 xs.length≠0->∃(g:Nat) (cur:Array Value),A=some ⟨g,0,none⟩/\base<=g/\g<N/\w.heap[g]?=some (.cells cur T (0,0))/\∀i (h:i<xs.length) j u,(prF xs[i])[j]?=some u->cur[i*2+j]?=some u
theorem zd2.nil (T:TypeId) (w:World) (base N:Nat) (A:Option Addr):zd2 T w base N A []:=fun h=>absurd rfl h
theorem zd2.keep {T:TypeId} {xs:List (Int×Int)} (h:zd2 T w base N A xs) (hk:∀g cur,g<N->w.heap[g]?=some (.cells cur T (0,0))->w'.heap[g]?=some (.cells cur T (0,0))):zd2 T w' base N A xs:=fun hn=>by
 obtain⟨g,cur,e,hb,hN,hh,hc⟩:=h hn;exact⟨g,cur,e,hb,hN,hk g cur hN hh,hc⟩
theorem zd2.more {T:TypeId} {xs:List (Int×Int)} (h:zd2 T w base N A xs) (hN:N<=N'):zd2 T w base N' A xs:=fun hn=>by
 obtain⟨g,cur,e,hb,h1,hh⟩:=h hn;exact⟨g,cur,e,hb,by omega,hh⟩
theorem zd2.less {T:TypeId} {xs:List (Int×Int)} (h:zd2 T w base N A xs) (hb:base'<=base):zd2 T w base' N A xs:=fun hn=>by
 obtain⟨g,cur,e,h1,hN,hh⟩:=h hn;exact⟨g,cur,e,by omega,hN,hh⟩
theorem zd2.rd {T:TypeId} {xs:List (Int×Int)} (h:zd2 T w base N A xs):RdQ 2 prF w N A xs:=fun hn=>by
 obtain⟨g,cur,e,hb,hN,hh,hc⟩:=h hn;refine⟨g,0,e,hN,fun i hi j u hu=>?_⟩;rw[Aw w g _ _ _ _ hh,Bu];exact hc i hi j u hu
theorem aK.rowP {T:TypeId} {c:Nat} {xs:List (Int×Int)} (h:aK T 2 prF w base (.slice A n c) xs):zd2 T w base w.heap.size A xs:=fun hn=>by
 rcases h.2 with⟨e,h0⟩|⟨g,cap,cur,e,hb,hg,h1,hm,hs,ht⟩
 ·exact absurd h0 hn
 ·injection e with e1 e2 e3;refine⟨g,cur,e1,hb,(Ac.1 hg).1,hg,fun i hi j u hu=>?_⟩;have hj:j<2:=by rw[<-aJ xs[i]];exact(Ba.1 hu).1
  have h2:(cur.toList.take (xs.length*2))[i*2+j]?=(xs.flatMap prF)[i*2+j]?:=by rw[ht]
  rw[CP (by omega),D9,qat aJ xs i j hi hj]at h2;rw[h2];exact hu
abbrev QP:=List (Int×Int)×Option Addr×Nat
abbrev QS:=QP×QP
def qpC (q:QP):Value:=.slice q.2.1 q.1.length q.2.2
def stC (q:QS):List Value:=[qpC q.1,qpC q.2]
theorem zaQ (q:QS):(stC q).length=2:=rfl
theorem zkh (q:QS):∀u∈stC q,u.oneCell'=true:=fun u hu=>by
 simp[stC]at hu;rcases hu with rfl|rfl <;> rfl
def stOf (q:QS):StT:=(q.1.1,q.2.1)
def zna (T:TypeId) (w:World) (base N:Nat) (q:QP):Prop:=q.1.length<=q.2.2/\q.2.2<=9223372036854775807/\zd2 T w base N q.2.1 q.1
def zjz (w:World) (base N NE:Nat) (q:QS):Prop:=zna 61 w base N q.1/\zna 96 w base NE q.2
def zbB (w:World) (base N NE:Nat) (v:Value) (qs:List QS):Prop:=aK 59 2 stC w base v qs/\∀q∈qs,zjz w base N NE q
theorem zmn:(Tryz.prog.info? 59).map (fun i=>(i.zero,i.size,i.bytes))=some (some (.agg #[.slice none 0 0,.slice none 0 0]),2,48):=by kernel_rfl
theorem zmt:(Tryz.prog.info? 96).map (fun i=>(i.zero,i.size,i.bytes))=some (some (.agg #[.int .i64 0,.int .i64 0]),2,16):=by kernel_rfl
theorem zjz.keep {w w':World} {base N NE:Nat} {q:QS} (h:zjz w base N NE q) (hk:∀g cur T,((T=61/\g<N)\/(T=96/\g<NE))->w.heap[g]?=some (.cells cur T (0,0))->w'.heap[g]?=some (.cells cur T (0,0))):zjz w' base N NE q :=
 ⟨⟨h.1.1,h.1.2.1,h.1.2.2.keep fun g cur hg hc=>hk g cur _ (.inl ⟨rfl,hg⟩) hc⟩,⟨h.2.1,h.2.2.1,h.2.2.2.keep fun g cur hg hc=>hk g cur _ (.inr ⟨rfl,hg⟩) hc⟩⟩
theorem zjz.more {w:World} {base N N' NE NE':Nat} {q:QS} (h:zjz w base N NE q) (hN:N<=N') (hE:NE<=NE'):zjz w base N' NE' q:=⟨⟨h.1.1,h.1.2.1,h.1.2.2.more hN⟩,⟨h.2.1,h.2.2.1,h.2.2.2.more hE⟩⟩
theorem zbB.nil (w:World) (base N NE:Nat):zbB w base N NE (.slice none 0 0) []:=⟨aK.nil w base,by simp⟩
theorem zbB.below {w w':World} {base N NE:Nat} {v:Value} {qs:List QS} (h:zbB w base N NE v qs) (hb:Below w.heap.size w w'):zbB w' base N NE v qs :=
 ⟨h.1.below hb (Ad _),fun q hq=>(h.2 q hq).keep fun g _ _ _ hc=>(hb.block g (Ac.1 hc).1).trans hc⟩
theorem zbB.rd {w:World} {base N NE n c:Nat} {A:Option Addr} {qs:List QS} (h:zbB w base N NE (.slice A n c) qs) (hN:N<=w.heap.size) (hE:NE<=w.heap.size):zdf w w.heap.size A (qs.map stOf):=fun hn=>by
 have hn:qs.length≠0:=by simpa using hn
 obtain⟨A',c',e,_,_,ab⟩:=aK.form h.1 zaQ;injection e with e1 e2 e3;subst e1;obtain⟨g,o,e,hg,hc⟩:=ab hn;refine⟨g,o,e,hg,fun i hi=>?_⟩;have aa:i<qs.length:=by simpa using hi
 have hq:=h.2 _ (Ay aa);rw[C3];exact⟨⟨_,_,hc i aa 0 _ rfl,hq.1.1,hq.1.2.1,hq.1.2.2.rd.more hN⟩,⟨_,_,hc i aa 1 _ rfl,hq.2.1,hq.2.2.1,hq.2.2.2.rd.more hE⟩⟩
theorem zns (qs:List QS) (i:Nat) (y:QS) (hy:∀h:i<qs.length,y.1=(qs[i]).1):(qs.flatMap stC).set (i*2+1) (qpC y.2)=(qs.set i y).flatMap stC:=by
 induction qs generalizing i with
 | nil=>simp
 | cons x r ih =>
  cases i with
  | zero =>
   have this:y.1=x.1:=hy (by simp);simp[stC,this]
  | succ i =>
   have ih:=ih i fun h=>hy (Nat.succ_lt_succ h);rw[show(i+1)*2+1=(i*2+1)+1+1 by omega];simp only[BD,stC,Cx,De,Dv];rw[ih]
theorem zbB.set1 {c:Nat} {qs:List QS} (h:zbB w base N NE (.slice (some ⟨g,0,none⟩) n c) qs) (i:Nat) (y:QS) (hi:i<qs.length) (hy:y.1=(qs[i]).1) (hq:zjz w base N NE y):zbB (w.setCell ⟨g,i*2+1,none⟩ (qpC y.2)) base N NE (.slice (some ⟨g,0,none⟩) n c) (qs.set i y):=by
 have hk:∀g' cur T,((T=61/\g'<N)\/(T=96/\g'<NE))->w.heap[g']?=some (.cells cur T (0,0))->(w.setCell ⟨g,i*2+1,none⟩ (qpC y.2)).heap[g']?=some (.cells cur T (0,0))   := fun g' cur T hT hc=>by
  refine(AH w ⟨g,i*2+1,none⟩ _ g' (fun e=>?_)).trans hc;have e:g'=g:=e;subst e;rcases h.1.2 with⟨e,_⟩|⟨g2,cap,cur2,e,hb,hg,_⟩
  ·cases e
  ·injection e with e _ _;injection e with e;injection e with e;subst e;rw[hg]at hc;injection hc with hc;injection hc with _ hc _;rcases hT with⟨rfl,_⟩|⟨rfl,_⟩ <;> exact absurd hc (by decide)
 refine⟨?_,fun q aa=>?_⟩
 ·rcases h.1.2 with⟨e,_⟩|⟨g2,cap,cur,e,hb,hg,h1,hm,hs,ht⟩
  ·cases e
  ·injection e with e1 e2 e3;injection e1 with e1;injection e1 with e1;subst e1 e3;have hl:(qs.set i y).length=qs.length:=Dp;unfold aK;rw[hl];refine⟨by rw[zjH zaQ,hl],.inr ⟨g,c,cur.setIfInBounds (i*2+1) (qpC y.2),by rw[e2],hb,AP w g _ _ _ _ hg,h1,hm,by simp[hs],?_⟩⟩;rw[<-zns qs i y (fun _=>hy),<-ht];simp only[Array.toList_setIfInBounds];rw[List.take_set]
 ·rcases Df aa with q'|q'
  ·exact(h.2 q q').keep hk
  ·rw[q'];exact hq.keep hk
def zfy (p:Addr) (w:World):Type:={x:World // x.cell? p=w.cell? p}
instance (p:Addr) (w:World):Nonempty (zfy p w):=⟨⟨w,rfl⟩⟩
theorem zay {o:Oper} {a:Act} {Q:Exit->Act->World->Prop} {K:Act->World->Prop} (m x:Operand) (t:TypeId) (aa:o.op=Op.mapEntry t m x) {mv xv r:Value} (h:(Instr.mapEntry t mv xv).run P w=.ok r w') (hm:a.eval m=mv) (hx:a.eval x=xv) (hK:K (a.put o.dst r) w'):o.wp P a w K Q:=by
 unfold Oper.wp;simp[execOp,aa,hm,hx,h,Result.andThen];exact hK
theorem zbz {o:Oper} {a:Act} {Q:Exit->Act->World->Prop} {K:Act->World->Prop} (m x v:Operand) (t:TypeId) (aa:o.op=Op.entryStore t m x v) {mv xv vv:Value} (h:(Instr.entryStore t mv xv vv).run P w=.ok () w') (hm:a.eval m=mv) (hx:a.eval x=xv) (hv:a.eval v=vv) (hK:K (a.put o.dst undef) w'):o.wp P a w K Q:=by
 unfold Oper.wp;simp[execOp,aa,hm,hx,hv,h,Result.andThen];exact hK
structure KeepN (R M:Nat) (w w':World):Prop where
 size:w.heap.size<=w'.heap.size
 keep:∀(g:Nat) (o:Obj),w.heap[g]?=some o->g≠R->g≠M->(∀cur fr,o ≠ .cells cur 59 fr)->w'.heap[g]?=some o
section
variable {R M:Nat} {w w' w2:World}
theorem KeepN.refl (R M:Nat) (w:World):KeepN R M w w:=⟨Ad _,fun _ _ h _ _ _=>h⟩
theorem KeepN.trans (h:KeepN R M w w') (k:KeepN R M w' w2):KeepN R M w w2:=⟨Ag h.size k.size,fun g o h1 h2 h3 h4=>k.keep g o (h.keep g o h1 h2 h3 h4) h2 h3 h4⟩
theorem KeepN.below (h:Below w.heap.size w w'):KeepN R M w w':=⟨h.size,fun g _ h1 _ _ _=>(h.block g (Ac.1 h1).1).trans h1⟩
theorem KeepN.own (h:w.ownsRow base 59 2 v n xs) (hg:w.grownBy w' v.ownBlock):KeepN R M w w':=⟨hg.size,fun _ _ h1 _ _ h4=>aI h hg h1 fun cur=>h4 cur _⟩
theorem KeepN.map (hg:w.grownBy w' (some M)):KeepN R M w w':=⟨hg.size,fun g _ h1 _ h3 _=>(hg.block g (Ac.1 h1).1 (fun e=>by injection e with e;exact h3 e)).trans h1⟩
theorem KeepN.set (i:Nat) (u:Value):KeepN R M w (w.setCell ⟨R,i,none⟩ u):=⟨by simp,fun g _ h1 h2 _ _=>(AH w ⟨R,i,none⟩ u g h2).trans h1⟩
theorem KeepN.setSt (h:w.heap[g]?=some (.cells cs 59 fr)) (u:Value):KeepN R M w (w.setCell ⟨g,i,none⟩ u):=⟨by simp,fun g' _ h1 _ _ h4=>(AH w ⟨g,i,none⟩ u g' (fun e=>by
 have e:g'=g:=e;rw[e,h]at h1;injection h1 with h1;exact h4 _ _ h1.symm)).trans h1⟩
end
def abC (g0 g1 g2 g3 vS:Value) (M:Nat):Array Value:=#[g0,g1,g2,g3,vS,.map (some M)]
def bG (qs:List QS):List (List Au.It):=qs.map fun q=>q.1.1
structure ABd (w:World) (base R M NE:Nat) (g0 g1 g2 g3:Value) (qs:List QS):Prop where
 b:∃vS,w.heap[R]?=some (.cells (abC g0 g1 g2 g3 vS M) 120 (0,0))/\zbB w base w.heap.size NE vS qs
 m:∃l,Mw.MapSt zeK w M l/\Au.NumOk l (bG qs)
 hR:base<=R
 hM:base<=M
def bY (k:List Au.It) (A:Option Addr) (c:Nat):QS:=((k,A,c),([],none,0))
def zin (qs:List QS) (k:List Au.It) (A:Option Addr) (c:Nat):List QS:=if Au.fnd (bG qs) k<0 then qs++[bY k A c] else qs
def zi4 (qs:List QS) (k:List Au.It):Int:=if Au.fnd (bG qs) k<0 then(qs.length:Int) else Au.fnd (bG qs) k
section
variable {w w':World} {base R M NE:Nat} {g0 g1 g2 g3:Value} {qs:List QS}
theorem ABd.below (h:ABd w base R M NE g0 g1 g2 g3 qs) (hb:Below w.heap.size w w'):ABd w' base R M NE g0 g1 g2 g3 qs:=by
 obtain⟨⟨vS,h1,h2⟩,⟨l,h3,h4⟩,h5,h6⟩:=h;have h7:=h2.below hb;exact⟨⟨vS,aC hb h1,h7.1,fun q hq=>(h7.2 q hq).more hb.size (Ad _)⟩,⟨l,h3.block (hb.block _ h3.lt),h4⟩,h5,h6⟩
theorem ABd.more {NE':Nat} (h:ABd w base R M NE g0 g1 g2 g3 qs) (hE:NE<=NE'):ABd w base R M NE' g0 g1 g2 g3 qs:=by
 obtain⟨⟨vS,h1,h2⟩,h3,h5,h6⟩:=h;exact⟨⟨vS,h1,h2.1,fun q hq=>(h2.2 q hq).more (Ad _) hE⟩,h3,h5,h6⟩
theorem ABd.base_le (h:ABd w base R M NE g0 g1 g2 g3 qs):base<=w.heap.size:=by
 obtain⟨⟨vS,h1,_⟩,_,h5,_⟩:=h
 have:=(Ac.1 h1).1
 omega
end
theorem zhE {R:Nat} (h:KeepN R M w w') (hR:w.heap[R]?=some (.cells cs 120 (0,0))) (hM:∀(cur:Array Value) (T:TypeId),w.heap[M]? ≠ some (.cells cur T (0,0))):∀(g:Nat) (cur:Array Value) (T:TypeId),(T=61\/T=96)->w.heap[g]?=some (.cells cur T (0,0))->w'.heap[g]?=some (.cells cur T (0,0)):=fun g cur T hT hc=>by
 refine h.keep g _ hc (fun e=>?_) (fun e=>hM cur T (by rw[<-e];exact hc)) fun cur' fr e=>?_
 ·rw[e,hR]at hc;injection hc with hc;injection hc with _ hc _;rcases hT with rfl|rfl <;> exact absurd hc (by decide)
 ·injection e with _ e _;rcases hT with rfl|rfl <;> exact absurd e (by decide)
theorem zcg (w:World) (base R M NE:Nat) (g0 g1 g2 g3:Value) (qs:List QS) (k:List Au.It) (A:Option Addr) (c:Nat) (h:ABd w base R M NE g0 g1 g2 g3 qs) (hk:zna 61 w base w.heap.size (k,A,c)) (hb:∀z∈Au.txt k,0<=z/\z<=255) (hl:k.length<=1000) (hq:qs.length<=100000) :
  Calls Tryz.prog 56 #[.pointer (some ⟨R,0,none⟩),.slice A k.length c] w fun e w'=>e=.returned (.int .i64 (zi4 qs k))/\ABd w' base R M NE g0 g1 g2 g3 (zin qs k A c)/\Below base w w'/\KeepN R M w w':=by
 have HT:=aA (zfB k A c w.heap.size w hk.2.2.rd (Ad _) hb hl);have m:=aA h.base_le;have HH:=aA h;have HK:=aA hk;have HQ:=aA hq;have aw:Hid (K.Tx (Au.txt k)):=aA ⟨fun z hz=>by have:=hb z hz;omega,by rw[Au.txt_len];omega⟩;by_cases hf:Au.fnd (bG qs) k<0
 focus
  have HF:=aA hf;have HI:Hid (zi4 qs k=(qs.length:Int)):=aA (by unfold zi4;rw[Ap hf]);have ax:Hid (zin qs k A c=qs++[bY k A c]):=aA (by unfold zin;rw[Ap hf])
 rotate_left
 focus
  have HI:Hid (zi4 qs k=Au.fnd (bG qs) k):=aA (by unfold zi4;rw[AB hf]);have ax:Hid (zin qs k A c=qs):=aA (by unfold zin;rw[AB hf]);have HF:=aA hf
 rotate_left
 all_goals
  clear h hk hb hl hf hq;rw[HI.o,ax.o]
  go_enter Tryz.func56,Tryz.ntmps56
  go_wp2_with fail
  refine HT.o.mono ?_;rintro _ w1 ⟨rfl,aj⟩;have n:=aA aj;have ay:=aA (HH.o.below aj);obtain⟨⟨vS,h1,h2⟩,⟨l,h3,h4⟩,h5,h6⟩:=ay.o
 focus
  obtain⟨AS,cq,rfl,ba,bb,_⟩:=aK.form h2.1 zaQ;have cM:=zgW h1;have cS:=zdZ h1;have i:Mw.asc l (Au.txt k)=none:=by rw[h4 k,Ap HF.o]
 rotate_left
 focus
  have cM:=zgW h1;have i:Mw.asc l (Au.txt k)=some (.int .i64 (Au.fnd (bG qs) k)):=by rw[h4 k,AB (by have:=HF.o;omega)]
 rotate_left
 all_goals
  have ad:zeK.enc (Au.txt k)=.string (K.str (Au.txt k)):=rfl;have lk:=Mw.run_look (E:=zeK) h3.is zm1 (t:=118) Tryz.underlying118 (z:=.int .i64 0) (by kernel_rfl) (x:=Au.txt k) aw.o true;rw[i,ad]at lk;simp at lk
 focus
  have H1:=aA h1;have bc:=aA h1;have H2:=aA h2;have H3:=aA h3;have H4:=aA h4;have H5:=aA h5;have H6:=aA h6;have am:=aA i;have bo:=aA (fun k (e:(Value.slice AS qs.length cq).ownBlock=some k)=>(Bs h2.1 k e).1);have ao:Hid (M≠R):=aA (fun e=>by rw[<-e]at h1;exact h3.is.not_cells h1);have bp:(qs.length:Int)<=100000:=by have:=HQ.o;omega
  have bd:=(Ac.1 h1).1;have fR:=AD w1 R 4 _ _ h1;clear h1 h2 h3 h4 h5 h6 aj i;generalize K.str (Au.txt k)=str at *;go_upto_region 5 with fail
  have qM:∀y:zfy ⟨R,5,none⟩ w1,y.1.cell? ⟨R,5,none⟩=some (.map (some M)):=fun y=>y.2.trans cM;have p:Hid (∀y:World,y.cell? ⟨R,5,none⟩=w1.cell? ⟨R,5,none⟩->∃z:zfy ⟨R,5,none⟩ w1,y=z.1):=aA (fun y e=>⟨⟨y,e⟩,rfl⟩);have ap:=aA (p.o w1.drew rfl);clear lk fR ba bb;refine CalmN.region_tree (fun x=>∃y:zfy ⟨R,5,none⟩ w1,x=y.1) (.two [0,1,2,3,4,5,6,7,8,9,11,12] 10 (.one [] 13 (.one [] 14 (.one [] 15 (.one [16] 17 (.one [18,19] 20 (.fin [])))))) 13 (.one [] 10 (.one [] 14 (.one [] 15 (.one [16] 17 (.one [18,19] 20 (.fin []))))))) (by kernel_rfl) (by kernel_rfl) (fun _ _ d _ _ h=>by cases d <;> exact h) ap.o ?_;rw[CalmN.wpT];simp only[CalmN.pickOps,Am,Af,Ah];repeat (go_big_quiet_step (fail))
  have aq:Hid (Below w1.heap.size w1 w1.drew):=aA (aB (Aq _ _) 1);have H1:Hid (w1.drew.heap[R]?=some (.cells (abC g0 g1 g2 g3 (.slice AS qs.length cq) M) 120 (0,0))):=H1;have bf:Hid (aK 59 2 stC w1.drew base (.slice AS qs.length cq) qs):=aA H2.o.1;have bg:Hid (Mw.MapSt zeK w1.drew M l):=aA (H3.o.block rfl);have c4:w1.drew.cell? ⟨R,4,none⟩=some (.slice AS qs.length cq):=cS;have B:Hid (w1.cell? ⟨R,5,none⟩=some (.map (some M))):=aA cM;have bh:R<w1.drew.heap.size:=bd;clear qM cS cM;generalize w1.drew=wd at *;have r:Hid (Below wd.heap.size wd (wd.alloc (.cells #[.slice A k.length c,.slice none 0 0] 59))):=aA ((Aq _ _).alloc (Ad _) _);have c4a:=zdZ (aC r.o H1.o);have s:=aA (p.o (wd.alloc (.cells #[.slice A k.length c,.slice none 0 0] 59)) ((Aw _ R 5 _ _ _ (aC r.o H1.o)).trans B.o.symm));refine Aj ⟨?_,?_⟩
  case' refine_1 =>
   simp only[CalmN.wpT,CalmN.wpSt,CalmN.pickOps,Am,Af,Ah];intro KK b;rw[Ap (by rfl)];go_wp2_with fail
   refine b _ _ ap.o _ (fun _ h=>h) ap.o ?_;clear b;refine Aj ?_;intro KK b;rw[Ap (by rfl)];go_wp2_with fail
   refine b _ _ s.o _ (fun _ h=>h) s.o ?_;clear b;refine Aj ?_
  case' refine_2 =>
   simp only[CalmN.wpT,CalmN.wpSt,CalmN.pickOps,Am,Af,Ah];intro KK b;rw[Ap (by rfl)];go_wp2_with fail
   refine b _ _ s.o _ (fun _ h=>h) s.o ?_;clear b;refine Aj ?_;intro KK b;rw[Ap (by rfl)];go_wp2_with fail
   refine b _ _ s.o _ (fun _ h=>h) s.o ?_;clear b;refine Aj ?_
  all_goals
   intro KK b;rw[Ap (by rfl)];have C:=aA (bf.o.alloc (.cells #[.slice A k.length c,.slice none 0 0] 59));have b1:=aC r.o H1.o;obtain⟨es,ck,az,a0⟩:=bg.o;have bM:=aC r.o az;have ae:=Az wd (.cells #[.slice A k.length c,.slice none 0 0] 59);have ac:Hid (Below base w (wd.alloc (.cells #[.slice A k.length c,.slice none 0 0] 59))):=aA (((n.o.mono m.o).trans (aq.o.mono (Ag m.o n.o.size))).trans (r.o.mono (Ag m.o (Ag n.o.size aq.o.size))));clear c4 c4a;refine zic (f:=stC) (.tmp 36) (.tmp 39) _ rfl Tryz.underlying45 _ 48 zmn (by decide) (by decide) (by decide) zaQ zkh base _ qs rfl C.o _ _ (bY k A c) rfl (fun j u hu=>?_) (by have:=HQ.o;omega) (Ag m.o ac.o.size) ?_
   ·refine(Aw _ wd.heap.size j _ _ _ ae).trans ?_
    match j,hu with
    | 0,hu=>exact hu
    | 1,hu=>exact hu
    | j+2,hu=>simp[stC]at hu
   intro v5 w5 ar D;obtain⟨A5,c5,rfl,_,_,_⟩:=aK.form ar zaQ;have r5:=aI C.o D b1 fun cur=>aH (by decide);have m5:=aI C.o D bM fun cur e=>by cases e
   have bi:Hid (Mw.MapSt zeK w5 M l):=aA ⟨es,ck,m5,a0⟩;have a1:=aA (p.o w5 ((Aw w5 R 5 _ _ _ r5).trans B.o.symm));have ak:Hid (Below base w w5):=aA (ac.o.grown D (Ag m.o ac.o.size) (fun k e=>(Bs C.o k e).1));have bj:Hid (KeepN R M w1 w5):=aA (((KeepN.below aq.o).trans (.below r.o)).trans (.own C.o D));have bq:=aA r5;have a2:=aA ar;obtain⟨c0,w6,aa,a3,v⟩:=Mw.run_entry bi.o zm1 Tryz.underlying118 (z:=.int .i64 0) (by kernel_rfl) aw.o am.o;rw[ad]at aa;obtain⟨w7,ab,a4,F⟩:=Mw.run_estore (t:=118) a3 (.int .i64 (qs.length:Int));have r6:=(v.block R (Ac.1 r5).1 (fun e=>by injection e with e;exact ao.o e.symm)).trans r5;have r7:=(F.block R (Ac.1 r6).1 (fun e=>by injection e with e;exact ao.o e.symm)).trans r6;have a5:=aA (p.o w6 ((Aw w6 R 5 _ _ _ r6).trans B.o.symm));have a6:=aA (p.o w7 ((Aw w7 R 5 _ _ _ r7).trans B.o.symm));have bk:=Ag m.o ak.o.size;have bl:Hid (Below base w w7):=aA (zaa (zaa ak.o v H6.o (Ag m.o ak.o.size)) F H6.o (Ag (Ag m.o ak.o.size) v.size));have af:=aA aa;have ag:=aA ab;have c47:=zdZ r7;have f47:=AD w7 R 4 _ _ r7;have l47:=(Ac.1 r7).1;obtain⟨es6,z6,ah,_⟩:=a3;have ai:=a4;obtain⟨es7,ck7,au,_⟩:=a4;have o6:=AZ a2.o v (zaf a2.o m5 fun cur e=>by cases e);have o7:=AZ o6 F (zaf o6 ah fun cur e=>by cases e);have o8:aK 59 2 stC (w7.setCell ⟨R,4,none⟩ (.slice A5 (qs++[bY k A c]).length c5)) base (.slice A5 (qs++[bY k A c]).length c5) (qs++[bY k A c]):=AZ o7 (aF (AI _ _) 4 _) (zaf o7 r7 fun cur=>aH (by decide));have al:Hid (KeepN R M w1 (w7.setCell ⟨R,4,none⟩ (.slice A5 (qs++[bY k A c]).length c5))):=aA (((bj.o.trans (.map v)).trans (.map F)).trans (.set 4 _));have av:=zhE al.o bc.o (fun cur T=>H3.o.is.not_cells)
   have HP:Hid (ABd (w7.setCell ⟨R,4,none⟩ (.slice A5 (qs++[bY k A c]).length c5)) base R M NE g0 g1 g2 g3 (qs++[bY k A c])):=aA (by
    refine⟨⟨_,AP w7 R 4 _ _ _ r7,o8,fun q hq=>?_⟩,⟨_,ai.block (AH w7 ⟨R,4,none⟩ _ M ao.o),?_⟩,H5.o,H6.o⟩
    ·rcases Bj.1 hq with hq|hq
     ·exact((H2.o.2 q hq).keep fun g cur T hT hc=>av g cur T (hT.imp (·.1) (·.1)) hc).more al.o.size (Ad _)
     ·rw[AF.1 hq];exact⟨⟨HK.o.1,HK.o.2.1,((HK.o.2.2.keep fun g cur hg hc=>(n.o.block g hg).trans hc).keep fun g cur _ hc=>av g cur _ (.inl rfl) hc).more (Ag n.o.size al.o.size)⟩,⟨AX _,AX _,zd2.nil _ _ _ _ _⟩⟩
    ·have:=Au.NumOk.snoc H4.o HF.o
     have e1:(bG qs).length=qs.length:=by unfold bG;rw[Bb]
     have e2:bG (qs++[bY k A c])=bG qs++[k]:=by unfold bG;rw[AW];rfl
     rw[e1]at this;rw[e2];exact this)
   have bm:Hid (Below base w (w7.setCell ⟨R,4,none⟩ (.slice A5 (qs++[bY k A c]).length c5))):=aA (bl.o.setCell H5.o _);have bn:Hid (KeepN R M w (w7.setCell ⟨R,4,none⟩ (.slice A5 (qs++[bY k A c]).length c5))):=aA ((KeepN.below n.o).trans al.o);have a9:=aA (p.o (w7.setCell ⟨R,4,none⟩ (.slice A5 (qs++[bY k A c]).length c5)) ((Aw _ R 5 _ _ _ (AP w7 R 4 _ _ _ r7)).trans B.o.symm));clear r5 m5 ar D aa v ab F r6 r7 ah au o6 o7 o8 av b1 bM az a0 ae ai bk;generalize (qs++[bY k A c]).length=ln at *;refine b _ _ a1.o _ (fun _ h=>h) a1.o ?_;clear b;refine Aj ?_;intro KK b;rw[Ap (by rfl)];refine zay _ _ _ rfl af.o rfl rfl ?_;refine b _ _ a5.o _ (fun _ h=>h) a5.o ?_;clear b
   go_frame
   repeat (go_big_quiet_step (fail))
   refine Aj ?_;intro KK b;rw[Ap (by rfl)];refine zbz _ _ _ _ rfl ag.o rfl rfl rfl ?_;refine b _ _ a6.o _ (fun _ h=>h) a6.o ?_;clear b
   go_frame
   repeat (go_big_quiet_step (fail))
   refine Aj ?_;intro KK b;rw[Ap (by rfl)];go_wp2_with fail
   refine b _ _ a9.o _ (fun _ h=>h) a9.o ?_;clear b c47 f47 l47;refine Aj ?_;go_wp2;go_ret
   exact⟨rfl,HP.o,bm.o,bn.o⟩
 focus
  clear h1 h2 h3 h4 h5 h6 aj i;generalize K.str (Au.txt k)=str at *;go_wp2;go_ret
  exact⟨rfl,ay.o,n.o.mono m.o,.below n.o⟩
end Go.Proofs.YtjjbaehamplnaaaGreat
namespace Go.Proofs.YtjjbaehamplnaaaGreat
open Go.RowKit
theorem zkF {y:World} {MM:Lk.MP} (h:Mw.MapIs wkE y M (Lk.encM MM)) (x:Int×Int) (hx:Gm.In x.1/\Gm.In x.2) :
  (Instr.lookup 172 (.map (some M)) (.agg #[.int .i64 x.1,.int .i64 x.2]) false).run Tryz.prog y=.ok (.int .u32 (Lk.gN MM x:Int)) y:=by
 have:=Mw.run_look (E:=wkE) h wkK (t:=172) Tryz.underlying172 (z:=.int .u32 0) (by kernel_rfl) (x:=x) hx false
 rw[Lk.gN_enc]at this;exact this
theorem znA {y:World} {DD:Lk.MP} (h:Mw.MapIs enE y D (Lk.encM DD)) (x:Int×Int) (hx:Gm.In x.1/\Gm.In x.2) :
  (Instr.lookup 123 (.map (some D)) (.agg #[.int .i64 x.1,.int .i64 x.2]) false).run Tryz.prog y=.ok (.int .u32 (Lk.gN DD x:Int)) y:=by
 have:=Mw.run_look (E:=enE) h enK (t:=123) Tryz.underlying123 (z:=.int .u32 0) (by kernel_rfl) (x:=x) hx false
 rw[Lk.gN_enc]at this;exact this
theorem Lk.enc_same (MM:Lk.MP) (x:Int×Int):Mw.asc (Mw.putA (Lk.encM MM) x ((Mw.asc (Lk.encM MM) x).getD (.int .u32 0))) x=some (.int .u32 (Lk.gN MM x:Int)):=by
 rw[Lk.gN_enc,Mw.asc_put,Ap rfl]
theorem zcF (w:World) (base R gc T M D:Nat) (g0 g1 g2 g3 tv:Value) (tl:List ((Int×Int)×Value)) (MM DD:Lk.MP) (st:List (Int×Int)) (x:Int×Int) (more:Nat) (h:WkSt w base R gc T M D g0 g1 g2 g3 tv tl MM DD st) (hx:Gm.In x.1/\Gm.In x.2) (hm:more<4294967296) (hM:Lk.gN MM x<4294967296) (ad:st.length<=900000) :
  Calls Tryz.prog 148 #[itV x,.int .u32 (more:Int),.pointer (some ⟨R,0,none⟩),.pointer (some ⟨gc,0,none⟩)] w fun e w'=>e=.returned (.tuple #[])/\WkSt w' base R gc T M D g0 g1 g2 g3 tv tl (vM MM x more) DD (vS MM st x more)/\Below base w w'/\KeepG gc M D w w':=by
 obtain⟨wb,n⟩:∃y,y=w.alloc (.cells #[.int .i64 x.1,.int .i64 x.2] 176):=⟨_,rfl⟩
 have F:Hid (Below w.heap.size w wb):=aA (by rw[n];exact(Aq _ _).alloc (Ad _) _);have p:wb.heap[w.heap.size]?=some (.cells #[.int .i64 x.1,.int .i64 x.2] 176 (0,0)):=by rw[n];exact Az w _
 have am:=aA p;have HH:=aA (h.below F.o);have s:=aA h.base_le;have bp:=aA h.gcl;have bf:=aA h.m.lt;have bq:=aA h.d.lt
 have br:=aA (show ∀v,w.cell? ⟨gc,0,none⟩=some v->∀k,v.ownBlock=some k->k<w.heap.size from fun v hv k hk=>by
  obtain⟨v',h2,h3⟩:=h.v
  have:=Aw w gc 0 _ _ _ h2
  rw[hv]at this;injection this with this;subst this;exact(Bs h3 k hk).2)
 have bs:=aA hx;have a0:Hid (KeepG gc M D w wb):=aA (.below F.o h.gcl);have cM:=zjG HH.o.r;have x0:=aM p;have x1:=aR p;have lk:=zkF HH.o.m.is x hx;have bu:=u32_andNot_nat more (Lk.gN MM x) hm hM;by_cases hn:Lk.gN MM x ||| more=Lk.gN MM x
 ·have e1:vM MM x more=MM:=by unfold vM;rw[Ap hn]
  have e2:vS MM st x more=st:=by unfold vS;rw[Ap hn]
  have hz:(((more &&& (4294967295-Lk.gN MM x):Nat):Int) != 0)=false:=by rw[(Gm.new_iff hM hm).2 hn];rfl
  rw[e1,e2];clear e1 e2 hn h hx p hm hM ad;generalize Lk.gN MM x=a at *;generalize more &&& (4294967295-a)=d at *
  go_enter Tryz.func148,Tryz.ntmps148
  go_upto_region 1 with fail
  rw[<-n];clear n;go_wp2;go_end0
  exact⟨rfl,HH.o,F.o.mono s.o,a0.o⟩
 ·have e1:vM MM x more=Lk.orN MM x more:=by unfold vM;rw[AB hn]
  have e2:vS MM st x more=st++[x]:=by unfold vS;rw[AB hn]
  have hz:(((more &&& (4294967295-Lk.gN MM x):Nat):Int) != 0)=true:=by
   have:(more &&& (4294967295-Lk.gN MM x))≠0:=fun e=>hn ((Gm.new_iff hM hm).1 e)
   rw[Du];omega
  have bv:=EM (Lk.gN MM x) more hM hm;rw[e1,e2];have a1:Hid (Mw.putA (Lk.encM MM) x (.int .u32 ((Lk.gN MM x ||| more:Nat):Int))=Lk.encM (Lk.orN MM x more)):=aA Lk.enc_put;have ao:=aA ad
  have ap:Hid (∀y:World,y.heap[R]?=wb.heap[R]?->y.heap[w.heap.size]?=wb.heap[w.heap.size]?->∃z:OnP [R,w.heap.size] wb,y=z.1):=aA (fun y e1 e2=>⟨⟨y,fun g hg=>by
   rcases Bq.1 hg with rfl|hg
   ·exact e1
   ·rw[AF.1 hg];exact e2⟩,rfl⟩)
  have aj:=HH.o.gcM;have a2:Hid (M≠w.heap.size):=aA (by have:=bf.o;omega);have a3:Hid (R≠M):=aA aj.2.2.2.1;have bg:Hid (gc≠M):=aA aj.1;have bw:Hid (gc≠D):=aA aj.2.1;have a4:Hid (w.heap.size<wb.heap.size):=aA (Ac.1 p).1;have HD:Hid (WkSt wb.drew base R gc T M D g0 g1 g2 g3 tv tl MM DD st):=aA (HH.o.below (aB (Aq _ _) 1));have lkd:=zkF HD.o.m.is x hx;obtain⟨u,cc,w6,aa,ae,af,ak⟩:=Mw.run_met HD.o.m wkK Tryz.underlying172 (z:=.int .u32 0) (by kernel_rfl) (x:=x) hx
  have lk6:(Instr.lookup 172 (.map (some M)) (.agg #[.int .i64 x.1,.int .i64 x.2]) false).run Tryz.prog w6=.ok (.int .u32 (Lk.gN MM x:Int)) w6:=by
   have:=Mw.run_look (E:=wkE) af wkK (t:=172) Tryz.underlying172 (z:=.int .u32 0) (by kernel_rfl) (x:=x) hx false
   rw[Lk.enc_same]at this;exact this
  obtain⟨w7,ab,aq,a5⟩:=ae.2 w6 rfl (.int .u32 ((Lk.gN MM x ||| more:Nat):Int));have ag:wkE.enc x=.agg #[.int .i64 x.1,.int .i64 x.2]:=rfl;rw[ag]at aa;rw[a1.o]at aq;have i:=aA (zae ak a5);have H7:=aA (HD.o.mset i.o aq);have r6:=(ak.block R (Ac.1 HD.o.r).1 (fun e=>by injection e with e;exact a3.o e))
  have xb6:=(ak.block w.heap.size (show w.heap.size<wb.drew.heap.size from a4.o) (fun e=>by injection e with e;exact a2.o e.symm))
  have xb7:=(i.o.block w.heap.size (show w.heap.size<wb.drew.heap.size from a4.o) (fun e=>by injection e with e;exact a2.o e.symm))
  have r7:=(i.o.block R (Ac.1 HD.o.r).1 (fun e=>by injection e with e;exact a3.o e))
  have ar:=aA (ap.o wb.drew rfl rfl);have B:=aA (ap.o w6 r6 xb6);have a6:=aA (ap.o w7 r7 xb7);have a9:Hid (w7.heap[w.heap.size]?=some (.cells #[.int .i64 x.1,.int .i64 x.2] 176 (0,0))):=aA (xb7.trans am.o);have ac:=aA aa;have ah:=aA ab;have au:=aA lk6;have av:=aA lkd;have ba:Hid (Below base w w7):=aA (zaa ((F.o.trans (aB (Aq _ _) 1)).mono s.o) i.o h.hM (Ag s.o F.o.size));have bh:Hid (wb.heap[R]?=some (.cells (wrC g0 g1 g2 g3 tv T M D) 174 (0,0))):=aA HH.o.r;have bi:Hid (base<=gc):=aA h.hg;have bj:Hid (KeepG gc M D w w7):=aA ((a0.o.trans (.below (aB (Aq _ _) 1) HH.o.gcl)).trans (.map i.o HD.o.gcl bg.o));clear e1 e2 hn h hx p hm hM ad aj aa ab ae af ak aq a5 r6 r7 xb6 xb7 lk6 lkd ag a1;generalize Lk.gN MM x=a at *;generalize more &&& (4294967295-a)=d at *;generalize bb:wb.drew=wd at *
  go_enter Tryz.func148,Tryz.ntmps148
  go_upto_region 1 with fail
  rw[<-n];clear n;go_upto_region 2 with fail
  have qM:∀y:OnP [R,w.heap.size] wb,y.1.cell? ⟨R,6,none⟩=some (.map (some M)):=fun y=>y.row (by simp) bh.o rfl;have q0:∀y:OnP [R,w.heap.size] wb,y.1.cell? ⟨w.heap.size,0,none⟩=some (.int .i64 x.1):=fun y=>y.row (by simp) am.o rfl;have q1:∀y:OnP [R,w.heap.size] wb,y.1.cell? ⟨w.heap.size,1,none⟩=some (.int .i64 x.2):=fun y=>y.row (by simp) am.o rfl;clear x0 x1 cM lk;have S0:∃y:OnP [R,w.heap.size] wb,wb.drew=y.1:=by rw[bb];exact ar.o
  refine CalmN.region_tree (fun x=>∃y:OnP [R,w.heap.size] wb,x=y.1) (.two [0,1,2,4] 3 (.one [5] 6 (.one [7] 8 (.fin []))) 6 (.one [7] 3 (.one [5] 8 (.fin [])))) (by kernel_rfl) (by kernel_rfl) (fun _ _ d _ _ h=>by cases d <;> exact h) S0 ?_;rw[CalmN.wpT];simp only[CalmN.pickOps,Am,Af,Ah];repeat (go_big_quiet_step (fail))
  rw[bb];clear S0;refine Aj ⟨?_,?_⟩
  case' refine_1 =>
   simp only[CalmN.wpT,CalmN.wpSt,CalmN.pickOps,Am,Af,Ah];intro KK b;rw[Ap (by rfl)];have lkd:=av.o;go_wp2_with fail
   refine b _ _ ar.o _ (fun _ h=>h) ar.o ?_;clear b lkd;repeat (go_big_quiet_step (fail))
   refine Aj ?_;intro KK b;rw[Ap (by rfl)];refine zay _ _ _ rfl ac.o rfl rfl ?_;refine b _ _ B.o _ (fun _ h=>h) B.o ?_;clear b
   go_frame
   repeat (go_big_quiet_step (fail))
   refine Aj ?_
  case' refine_2 =>
   simp only[CalmN.wpT,CalmN.wpSt,CalmN.pickOps,Am,Af,Ah];intro KK b;rw[Ap (by rfl)];refine zay _ _ _ rfl ac.o rfl rfl ?_;refine b _ _ B.o _ (fun _ h=>h) B.o ?_;clear b
   go_frame
   repeat (go_big_quiet_step (fail))
   refine Aj ?_;intro KK b;rw[Ap (by rfl)];have lk6:=au.o;go_wp2_with fail
   refine b _ _ B.o _ (fun _ h=>h) B.o ?_;clear b lk6;repeat (go_big_quiet_step (fail))
   refine Aj ?_
  all_goals
   intro KK b;rw[Ap (by rfl)];refine zbz _ _ _ _ rfl ah.o rfl rfl rfl ?_;refine b _ _ a6.o _ (fun _ h=>h) a6.o ?_;clear b qM q0 q1
   go_frame
   refine Aj ?_;obtain⟨v,aw,ax⟩:=H7.o.v;obtain⟨A,c,rfl,bk,bl,_⟩:=aK.form ax aJ;have c0:=aM aw;have x0:=aM a9.o;have x1:=aR a9.o;have al:Hid (Below w7.heap.size w7 (w7.alloc (.cells #[.int .i64 x.1,.int .i64 x.2] 176))):=aA ((Aq _ _).alloc (Ad _) _);have l:=aA (ax.alloc (.cells #[.int .i64 x.1,.int .i64 x.2] 176));have C:=aA (aC al.o aw);have ay:=aA (Az w7 (.cells #[.int .i64 x.1,.int .i64 x.2] 176));have az:Hid (Below base w (w7.alloc (.cells #[.int .i64 x.1,.int .i64 x.2] 176))):=aA (ba.o.trans (al.o.mono (Ag s.o ba.o.size)));have bm:Hid (KeepG gc M D w (w7.alloc (.cells #[.int .i64 x.1,.int .i64 x.2] 176))):=aA (bj.o.trans (.below al.o H7.o.gcl));have bn:=aA (H7.o.below al.o);have bo:Hid (bU w7 gc=(Value.slice A st.length c).ownBlock):=aA (zbu c0);clear aw ax bk bl;go_wp2_with (at_builtin;refine zdV (f:=prF) rfl (.tmp 21) (.tmp 23) _ rfl Tryz.underlying227 _ 16 zml (by decide) (by decide) (by decide) aJ zdB base _ st rfl l.o _ _ x rfl (zis x _ _ ay.o) (by have:=ao.o;omega) (Ag s.o az.o.size) ?_;intro v5 w5 bc bd ai;have j:=aA (BJ bc (BJ bd ai));clear bc bd ai;have c5:=Aw w5 gc 0 _ _ _ (aI l.o j.o.2.1 C.o fun cur=>aH (by decide));have f5:=AD w5 gc 0 _ _ (aI l.o j.o.2.1 C.o fun cur=>aH (by decide));have l5:=(Ac.1 (aI l.o j.o.2.1 C.o fun cur=>aH (by decide))).1;obtain⟨A5,c5',rfl,_,_,_⟩:=aK.form j.o.1 aJ;generalize (st++[x]).length=ln at *)
   go_end0
   exact⟨rfl,bn.o.push C.o l.o j.o.1 j.o.2.1,(az.o.grown j.o.2.1 (Ag s.o az.o.size) (fun k e=>(Bs l.o k e).1)).setCell bi.o _,bm.o.push (Aw _ gc 0 _ _ _ C.o) j.o.2.1 j.o.2.2 (aI l.o j.o.2.1 C.o fun cur=>aH (by decide))⟩
def zi (s:List Nat):List Int:=s.map Int.ofNat
theorem zeH (s:List Nat):(zi s).length=s.length:=by simp[zi]
theorem zgl (s:List Nat) (i:Nat):(zi s).getD i 0=((s.getD i 0:Nat):Int):=by
 unfold zi;rw[Ai,Ai,BC];cases s[i]? <;> rfl
theorem zlr (s:List Nat) (i v:Nat):(zi s).set i (v:Int)=zi (s.set i v):=by unfold zi;rw[Cs];rfl
theorem zls (n:Nat):zi (List.replicate n 0)=List.replicate n 0:=by simp[zi]
def RdZ (w:World) (B:Nat) (A:Option Addr) (s:List Nat):Prop:=RdU w B A (zi s)
def UBZ (w:World) (g:Nat) (s:List Nat):Prop:=UBU w g (zi s)
theorem UBZ.lt {w:World} {g:Nat} {s:List Nat} (h:UBZ w g s):g<w.heap.size:=UBU.lt h
theorem UBZ.cell {w:World} {g:Nat} {s:List Nat} (h:UBZ w g s) (i:Nat) (hi:i<s.length):w.cell? ⟨g,i,none⟩=some (.int .u32 ((s.getD i 0:Nat):Int)):=by
 have:=UBU.cell h i (by rw[zeH];exact hi)
 rwa [zgl]at this
theorem UBZ.frozen {w:World} {g:Nat} {s:List Nat} (h:UBZ w g s) (i:Nat):w.frozen? ⟨g,i,none⟩=false:=UBU.frozen h i
theorem UBZ.set_ {w:World} {g:Nat} {s:List Nat} (h:UBZ w g s) (i v:Nat):UBZ (w.setCell ⟨g,i,none⟩ (.int .u32 (v:Int))) g (s.set i v):=by
 have:=UBU.set_ h i (v:Int)
 rwa [zlr]at this
theorem UBZ.alloc {w:World} {g:Nat} {s:List Nat} (h:UBZ w g s) (o:Obj):UBZ (w.alloc o) g s:=UBU.alloc h o
theorem UBZ.below {w w':World} {g B:Nat} {s:List Nat} (h:UBZ w g s) (hb:Below B w w') (hg:g<B):UBZ w' g s:=UBU.below h hb hg
theorem UBZ.far {w:World} {g:Nat} {s:List Nat} (h:UBZ w g s) {p:Addr} (hp:g≠p.block) (u:Value):UBZ (w.setCell p u) g s:=UBU.far h hp u
theorem UBZ.drewN {s:List Nat} (h:UBZ w g s) (n:Nat):UBZ (w.drewN n) g s:=h
theorem UBZ.rd {s:List Nat} (h:UBZ w g s) (hB:g<B):RdZ w B (some ⟨g,0,none⟩) s:=UBU.rd0 h hB
theorem RdZ.cell {w:World} {B g o:Nat} {s:List Nat} (h:RdZ w B (some ⟨g,o,none⟩) s) (i:Nat) (hi:i<s.length):w.cell? ⟨g,o+i,none⟩=some (.int .u32 ((s.getD i 0:Nat):Int)):=by
 have:=RdU.cell h i (by rw[zeH];exact hi)
 rwa [zgl]at this
theorem RdZ.addr {s:List Nat} (h:RdZ w B A s) (h0:s.length≠0):∃g o,A=some ⟨g,o,none⟩/\g<B/\∀i,i<s.length->w.cell? ⟨g,o+i,none⟩=some (.int .u32 ((s.getD i 0:Nat):Int)):=by
 obtain⟨g,o,e,hg,hc⟩:=h (by rw[zeH];exact h0);refine⟨g,o,e,hg,fun i hi=>?_⟩
 have:=hc i (by rw[zeH];exact hi)
 rwa [zgl]at this
theorem RdZ.keep {w w':World} {B:Nat} {A:Option Addr} {s:List Nat} (h:RdZ w B A s) (hk:∀g o,g<B->w'.cell? ⟨g,o,none⟩=w.cell? ⟨g,o,none⟩):RdZ w' B A s:=RdU.keep h hk
theorem RdZ.below {w w':World} {B B':Nat} {A:Option Addr} {s:List Nat} (h:RdZ w B A s) (hb:Below B' w w') (hB:B<=B'):RdZ w' B A s:=RdU.below h hb hB
theorem RdZ.more {w:World} {B B':Nat} {A:Option Addr} {s:List Nat} (h:RdZ w B A s) (hB:B<=B'):RdZ w B' A s:=RdU.more h hB
def znT (w:World) (g:Nat):Nat:=match w.heap[g]? with
 | some (.cells cs _ _)=>(cs.toList.map fun v=>match v with | .int _ z=>4294967296-z.toNat|_=>0).sum
 | _=>0
theorem UBZ.cnt {s:List Nat} (h:UBZ w g s):znT w g=Gm.gap s:=by
 unfold znT Gm.gap;rw[show w.heap[g]?=_ from h];clear h;simp only[zi,DV]
 congr 1
theorem zcI (z:Int) (w:World) :
  Calls Tryz.prog 228 #[.int .i64 z] w fun e w'=>e=.returned (.bool (decide (z<0)))/\w'=w:=by
 go_enter Tryz.func228,Tryz.ntmps228
 go_wp2;go_ret
 exact⟨rfl,rfl⟩
theorem zfj (z:Int) (hz:-9223372036854775808<=z) (aa:z<=9223372036854775807) (w:World) :
  Calls Tryz.prog 229 #[.int .i64 z] w fun e w'=>e=.returned (.int .i64 (-1-z))/\w'=w:=by
 have hs:IntKind.i64.wrap (-1-z) = -1-z:=Cr _ (by omega);clear hz aa
 go_enter Tryz.func229,Tryz.ntmps229
 go_wp2;go_ret
 exact⟨rfl,rfl⟩
theorem zhS (n:Int) (w:World) :
  Calls Tryz.prog 230 #[.int .i64 n] w fun e w'=>e=.returned (.int .u32 (S.bit n))/\Below w.heap.size w w':=by
 have H:=aA (show Calls Tryz.prog 234 #[.slice (some ⟨w.heap.size,0,none⟩) 1 1] (w.alloc (.cells #[.int .i64 n] 3)) _ from zkj (some ⟨w.heap.size,0,none⟩) 1 (w.alloc (zcf [n])).heap.size [n] (w.alloc (zcf [n])) (zi9 w [n]).1 (by simp));have HB:=aA (zi9 w [n]).2;rw[S.of_one]at H
 go_enter Tryz.func230,Tryz.ntmps230
 go_wp2_with fail
 refine H.o.mono ?_;rintro _ w2 ⟨rfl,q,rfl⟩;go_wp2;go_ret
 exact⟨rfl,aB HB.o q⟩
def Gm.bgN (fs:List Nat) (z:Int):Nat:=if 0<=z then 2 ^ z.toNat else fs.getD (-1-z).toNat 0
def Gm.mbN (nu:List Bool) (z:Int):Bool:=decide (z<0)&&nu.getD (-1-z).toNat false
theorem Gm.ofN_cons (nu:List Bool) (fs:List Nat) (rest:Nat) (z:Int) (r:List Int):Gm.ofN nu fs rest (z::r)=Gm.bgN fs z ||| (if Gm.mbN nu z=true then Gm.ofN nu fs rest r else 0):=by
 rw[Gm.ofN];unfold Gm.bgN Gm.mbN;by_cases h:0<=z
 ·rw[Ap h,Ap h,AM (by omega)];simp
 ·rw[AB h,AB h,AJ (by omega)];simp
theorem Gm.bgN_lt {fs:List Nat} (h:Gm.U32 fs) (hz:z<=31):Gm.bgN fs z<4294967296:=by
 unfold Gm.bgN;split
 ·have:=B3 (n:=2) (by decide) (show z.toNat<=31 by omega)
  omega
 ·exact h _
theorem zgf (z:Int) (fs:List Nat) (A A2:Option Addr) (n c c2 B:Nat) (w:World) (hz:Gm.In z) (ab:z<=31) (hs:z<0->-1-z<(fs.length:Int)) (hr:RdZ w B A2 fs) (hB:B<=w.heap.size) :
  Calls Tryz.prog 216 #[.agg #[.slice A n c,.slice A2 fs.length c2],.int .i64 z] w fun e w'=>e=.returned (.int .u32 (Gm.bgN fs z))/\Below w.heap.size w w':=by
 unfold Gm.In at hz;have HI:=aA (fun w=>zcI z w);have HX:=aA (fun w=>zfj z hz.1 hz.2 w);have HO:=aA (fun w=>zhS z w);have HB:=aA (fun o=>(Aq w.heap.size w).alloc (Ad _) o);by_cases h0:z<0
 ·have hm:=hs h0;have d:Gm.bgN fs z=fs.getD (-1-z).toNat 0:=by unfold Gm.bgN;rw[AB (by omega)]
  obtain⟨m,he⟩:∃m:Nat,-1-z=(m:Int):=⟨(-1-z).toNat,by omega⟩
  rw[d];rw[he]at HX hm ⊢;have ad:m<fs.length:=by omega
  obtain⟨g,o,rfl,af,hc⟩:=hr.addr (by omega);have k0:=hc m ad;have ag:g<w.heap.size:=by omega
  simp only[BZ];rw[AJ h0]at HI;generalize fs.getD m 0=b at *;clear hz hs hr hc h0 he ab d HO
  go_enter Tryz.func216,Tryz.ntmps216
  go_wp2_with fail
  refine(HI.o _).mono ?_;rintro _ w2 ⟨rfl,aa⟩;subst aa;go_wp2_with fail
  go_quiet ((go_at_call 229;exact Dc (HX.o _)))
  go_wp2;go_ret
  exact⟨rfl,aB (HB.o _) _⟩
 ·have d:Gm.bgN fs z=S.bit z:=by unfold Gm.bgN S.bit;rw[Ap (by omega),Ap (by omega)]
  rw[d];rw[AM h0]at HI;clear hz hs hr h0 HX ab d
  go_enter Tryz.func216,Tryz.ntmps216
  go_wp2_with fail
  refine(HI.o _).mono ?_;rintro _ w2 ⟨rfl,aa⟩;subst aa;go_wp2_with fail
  refine(HO.o _).mono ?_;rintro _ w2 ⟨rfl,ac⟩;have ae:=aA ((HB.o _).trans (ac.mono (by simp)));clear ac;go_wp2;go_ret
  exact⟨rfl,ae.o⟩
theorem zhq (z:Int) (nu:List Bool) (A A2:Option Addr) (n c c2 B:Nat) (w:World) (hz:Gm.In z) (hs:z<0->-1-z<(nu.length:Int)) (hr:RdO w B A nu) (hB:B<=w.heap.size) :
  Calls Tryz.prog 217 #[.agg #[.slice A nu.length c,.slice A2 n c2],.int .i64 z] w fun e w'=>e=.returned (.bool (Gm.mbN nu z))/\Below w.heap.size w w':=by
 unfold Gm.In at hz;have HI:=aA (fun w=>zcI z w);have HX:=aA (fun w=>zfj z hz.1 hz.2 w);have HB:=aA (fun o=>(Aq w.heap.size w).alloc (Ad _) o);by_cases h0:z<0
 ·have hm:=hs h0;have d:Gm.mbN nu z=nu.getD (-1-z).toNat false:=by unfold Gm.mbN;rw[AJ h0,Cj]
  obtain⟨m,he⟩:∃m:Nat,-1-z=(m:Int):=⟨(-1-z).toNat,by omega⟩
  rw[d];rw[he]at HX hm ⊢;have aa:m<nu.length:=by omega
  obtain⟨g,o,rfl,ab,hc⟩:=hr (by omega);have k0:=hc m aa;have ac:g<w.heap.size:=by omega
  simp only[BZ];rw[AJ h0]at HI;generalize nu.getD m false=b at *;clear hz hs hr hc h0 he d
  go_enter Tryz.func217,Tryz.ntmps217
  go_wp2_with fail
  go_quiet (first|(go_at_call 229;exact Dc (HX.o _))|(go_at_call 228;exact Dc (HI.o _)))
  go_wp2;go_ret
  exact⟨rfl,aB (HB.o _) _⟩
 ·have d:Gm.mbN nu z=false:=by unfold Gm.mbN;rw[AM h0,C9]
  rw[d];rw[AM h0]at HI;clear hz hs hr h0 HX d
  go_enter Tryz.func217,Tryz.ntmps217
  go_wp2_with fail
  go_quiet ((go_at_call 228;exact Dc (HI.o _)))
  go_wp2;go_ret
  exact⟨rfl,aB (HB.o _) _⟩
theorem Gm.ofN_step (nu:List Bool) (fs:List Nat) (rest:Nat) (l:List Int) (k:Nat) (hk:k<l.length) (s:Nat):s ||| Gm.ofN nu fs rest (l.drop k)=(s ||| Gm.bgN fs l[k]) ||| (if Gm.mbN nu l[k]=true then Gm.ofN nu fs rest (l.drop (k+1)) else 0):=by
 rw[Bx hk,Gm.ofN_cons,Nat.or_assoc]
theorem zhC (l:List Int) (rest:Nat) (nu:List Bool) (fs:List Nat) (A A1 A2:Option Addr) (c c1 c2 B B1 B2:Nat) (w:World) (hr:RdI w B A l) (h1:RdO w B1 A1 nu) (h2:RdZ w B2 A2 fs) (hB:B<=w.heap.size) (ap:B1<=w.heap.size) (aq:B2<=w.heap.size) (ac:∀z∈l,Gm.In z) (ad:∀z∈l,z<=31) (hs:∀z∈l,z<0->-1-z<(fs.length:Int)) (hn:nu.length=fs.length) (hf:Gm.U32 fs) (aa:rest<4294967296) (hl:l.length<=9223372036854775807) :
  Calls Tryz.prog 189 #[.agg #[.slice A1 nu.length c1,.slice A2 fs.length c2],.slice A l.length c,.int .u32 rest] w fun e w'=>e=.returned (.int .u32 (Gm.ofN nu fs rest l))/\Below w.heap.size w w':=by
 have i:=aA ((Aq w.heap.size w).alloc (Ad _) (.cells #[.slice A1 nu.length c1,.slice A2 fs.length c2] 258));obtain⟨wk,j⟩:∃y,y=w.alloc (.cells #[.slice A1 nu.length c1,.slice A2 fs.length c2] 258):=⟨_,rfl⟩
 have HS:Hid (wk.heap.size=w.heap.size+1):=aA (by rw[j];simp);have hd:w.heap.size<wk.heap.size:=by rw[HS.o];omega
 have HK:=aA (show wk.heap[w.heap.size]?=some (.cells #[.slice A1 nu.length c1,.slice A2 fs.length c2] 258 (0,0)) by rw[j];exact Az w _);rw[<-j]at i;have ar:=aA (hr.below i.o hB);have au:=aA hB;have av:=aA (fun(y:World) (hy:Below wk.heap.size wk y) z (hz:z∈l)=>zgf z fs A1 A2 nu.length c1 c2 B2 y (ac z hz) (ad z hz) (hs z hz) (h2.keep fun g o hg=>((i.o.trans (hy.mono (CB hd))).cell (p:=⟨g,o,none⟩) (by simp only;omega))) (by have:=hy.size;omega));have aw:=aA (fun(y:World) (hy:Below wk.heap.size wk y) z (hz:z∈l)=>zhq z nu A1 A2 fs.length c1 c2 B1 y (ac z hz) (fun h=>by rw[hn];exact hs z hz h) (h1.keep fun g o hg=>((i.o.trans (hy.mono (CB hd))).cell (p:=⟨g,o,none⟩) (by simp only;omega))) (by have:=hy.size;omega));have ax:=aA (fun z hz=>Gm.bgN_lt hf (ad z hz));have ay:=aA aa;have az:=aA (Gm.ofN_step nu fs rest l);have ae:=aA (fun(k:Nat) (hk:k<l.length)=>Ay hk);have h0:(l.length:Int)<=9223372036854775807:=by omega
 obtain⟨r,af⟩:∃r,r=Gm.ofN nu fs rest l:=⟨_,rfl⟩
 have a0:=aA af;rw[<-af];clear hr h1 h2 ac ad hs hn hf hB ap aq hl af aa
 go_enter Tryz.func189,Tryz.ntmps189
 go_upto_region 1 with fail
 rw[<-j];clear j;go_wp2;go_loopw [12,7] (fun vi vs wr=>∃(k s:Nat),k<=l.length/\vi=.int .i64 k/\vs=.int .u32 s/\Hid (s<4294967296)/\Hid (r=s ||| Gm.ofN nu fs rest (l.drop k))/\Hid (Below wk.heap.size wk wr)) (fun vi _ _=>l.length-(intOf vi).toNat)
 case atStart=>exact⟨0,0,AX _,rfl,rfl,aA (by decide),aA (by rw[a0.o];simp),aA (Aq _ _)⟩
 case round =>
  obtain⟨k,s,hk,rfl,rfl,HL,HE,d⟩:=hrel;have kc:wr.heap[w.heap.size]?=some (.cells #[.slice A1 nu.length c1,.slice A2 fs.length c2] 258 (0,0)):=(d.o.block w.heap.size hd).trans HK.o;have q0:=Aw wr _ 0 _ _ _ kc;have q1:=Aw wr _ 1 _ _ _ kc;have a2:w.heap.size<wr.heap.size:=Ao hd d.o.size;by_cases f:k<l.length
  ·obtain⟨g,o,rfl,a3,hc⟩:=(ar.o.keep fun g o hg=>(d.o.cell (p:=⟨g,o,none⟩) (by have:=au.o;simp only;omega))) (by omega)
   have k0:=hc k f;rw[L.gd_lt f]at k0;have a1:=aA (fun y hy=>av.o y hy _ (ae.o k f));have ag:=aA (fun y hy=>aw.o y hy _ (ae.o k f));have ab:=aA (HE.o.trans (az.o k f s));have ah:=aA (ax.o _ (ae.o k f));clear hc;generalize l[k]=z at *;have ho:=aA (EM s (Gm.bgN fs z) HL.o ah.o);have ai:=aA (Gm.or32 HL.o ah.o);generalize Gm.bgN fs z=b at *;obtain⟨s2,aj⟩:∃s2,s2=s ||| b:=⟨_,rfl⟩
   rw[<-aj]at ho ai ab;clear aj;cases ak:Gm.mbN nu z
   all_goals
    rw[ak]at ag ab;clear ak;go_wp2_with fail
    refine(a1.o _ d.o).mono ?_;rintro _ w2 ⟨rfl,al⟩;have m:=aA (d.o.trans (al.mono d.o.size));have kc2:=(m.o.block w.heap.size hd).trans HK.o;have p0:=Aw w2 _ 0 _ _ _ kc2;have p1:=Aw w2 _ 1 _ _ _ kc2;have a4:w.heap.size<w2.heap.size:=Ao hd m.o.size;clear q0 q1 kc k0 al kc2;go_wp2_with fail
    refine(ag.o _ m.o).mono ?_;rintro _ w3 ⟨rfl,am⟩;have ao:=aA (m.o.trans (am.mono m.o.size));clear am;go_wp2_with fail
   focus
    go_ret
    refine⟨aP ?_,i.o.trans (ao.o.mono (CB hd))⟩;rw[ho.o,ab.o];simp
   focus
    go_roundw
    case rel=>exact⟨k+1,s2,f,by go_num,by rw[ho.o],ai,aA (by rw[ab.o];simp),ao⟩
    case measure=>simp[intOf];omega
  ·obtain rfl:k=l.length:=by omega
   have ho:=aA (EM s rest HL.o ay.o);have HX:Hid (r=s ||| rest):=aA (by rw[HE.o,DT];rfl);go_wp2_with fail
   go_ret
   exact⟨aP (by rw[ho.o,HX.o]),i.o.trans (d.o.mono (CB hd))⟩
structure GSt (w wr:World) (gk n ck:Nat) (s:List Nat) (b:Bool):Prop where
 u:UBZ wr gk s
 l:s.length=n
 q:wr.heap[w.heap.size]?=some (.cells #[.slice (some ⟨gk,0,none⟩) n ck] 102 (0,0))
 p:wr.heap[w.heap.size+1]?=some (.cells #[.bool b] 4 (0,0))
 g:w.grownBy wr (some gk)
 k:gk<w.heap.size
section
variable {w wr w':World} {gk n ck:Nat} {s:List Nat} {b:Bool}
theorem GSt.below (h:GSt w wr gk n ck s b) (hb:Below wr.heap.size wr w'):GSt w w' gk n ck s b:=⟨h.u.below hb h.u.lt,h.l,aC hb h.q,aC hb h.p,zae h.g (zab hb _),h.k⟩
theorem GSt.alloc (h:GSt w wr gk n ck s b) (o:Obj):GSt w (wr.alloc o) gk n ck s b:=h.below ((Aq _ wr).alloc (Ad _) o)
theorem GSt.drewN (h:GSt w wr gk n ck s b) (m:Nat):GSt w (wr.drewN m) gk n ck s b:=⟨h.u,h.l,h.q,h.p,zfT h.g m,h.k⟩
theorem GSt.hs (h:GSt w wr gk n ck s b):w.heap.size+1<wr.heap.size:=(Ac.1 h.p).1
theorem GSt.grew (h:GSt w wr gk n ck s b) (b':Bool):GSt w (wr.setCell ⟨w.heap.size+1,0,none⟩ (.bool b')) gk n ck s b' :=
 ⟨h.u.far (by have:=h.k;simp only;omega) _,h.l,(AH wr ⟨w.heap.size+1,0,none⟩ _ _ (by simp only;omega)).trans h.q,AP wr _ 0 _ _ _ h.p,⟨h.g.os,h.g.tape,h.g.output,by have:=h.g.size;simpa using this,fun i hi aa=>(AH wr ⟨w.heap.size+1,0,none⟩ _ i (by simp only;omega)).trans (h.g.block i hi aa)⟩,h.k⟩
theorem GSt.put (h:GSt w wr gk n ck s b) (m v:Nat):GSt w (wr.setCell ⟨gk,m,none⟩ (.int .u32 (v:Int))) gk n ck (s.set m v) b :=
 ⟨h.u.set_ m v,by rw[Dp];exact h.l,(AH wr ⟨gk,m,none⟩ _ _ (by have:=h.k;simp only;omega)).trans h.q,(AH wr ⟨gk,m,none⟩ _ _ (by have:=h.k;simp only;omega)).trans h.p,aF h.g m _,h.k⟩
end
def bC (w:World) (g:Nat):Nat:=match w.heap[g]? with
 | some (.cells cs _ _)=>bN (cs.getD 0 undef)
 | _=>0
theorem zmS {b:Bool} {t:TypeId} {f:Nat×Nat} (h:w.heap[g]?=some (.cells #[.bool b] t f)):bC w g=if b=true then 1 else 0:=by
 unfold bC;rw[h];cases b <;> rfl
theorem zjj (w wr:World) (gk n ck:Nat) (s:List Nat) (b:Bool) (m v:Nat) (hm:m<n) (hv:v<4294967296) (hs:Gm.U32 s) (h:GSt w wr gk n ck s b) :
  Calls Tryz.prog 227 #[.int .i64 m,.int .u32 v,.pointer (some ⟨w.heap.size+1,0,none⟩),.pointer (some ⟨w.heap.size,0,none⟩)] wr fun e w'=>e=.returned (.tuple #[])/\GSt w w' gk n ck (Gm.addN s m v) (b||decide (Gm.addN s m v≠s))/\w'.heap.size=wr.heap.size/\∀i,i≠gk->i≠w.heap.size+1->w'.heap[i]?=wr.heap[i]?:=by
 have aa:m<s.length:=by rw[h.l];exact hm
 have HN:=aA (Gm.new_iff (hs m) hv);have HA:=aA (Gm.addN_same (v:=v) aa);have hx:=u32_andNot_nat v (s.getD m 0) hv (hs m);have ho:=EM (s.getD m 0) v (hs m) hv;have HH:=aA h;have c0:=aM h.q;have c1:=aM h.p;have f1:=AD wr _ 0 _ _ h.p;have cm:=h.u.cell m aa;have hd:=h.hs;have ad:=h.u.lt;have ae:(m:Int)<(n:Int):=by omega
 generalize hB:(b||decide (Gm.addN s m v≠s))=b2;have HB:=aA hB;obtain⟨wy,f⟩:∃y,y=wr.setCell ⟨w.heap.size+1,0,none⟩ (.bool b2):=⟨_,rfl⟩
 have hy:GSt w wy gk n ck s b2:=by rw[f];exact h.grew b2
 have HZ:=aA (show GSt w (wy.setCell ⟨gk,m,none⟩ (.int .u32 ((s.getD m 0 ||| v:Nat):Int))) gk n ck (Gm.addN s m v) b2 from hy.put m _);have ab:Hid (wy.heap.size=wr.heap.size):=aA (by rw[f];simp);have ac:Hid (∀i,i≠gk->i≠w.heap.size+1->(wy.setCell ⟨gk,m,none⟩ (.int .u32 ((s.getD m 0 ||| v:Nat):Int))).heap[i]?=wr.heap[i]?):=aA (fun i h1 h2=>by rw[AH _ _ _ _ (by simp only;exact h1),f,AH _ _ _ _ (by simp only;exact h2)]);have e0:=aM hy.q;have em:=hy.u.cell m aa;have fm:=hy.u.frozen m;have af:=hy.hs;have ag:=hy.u.lt;clear hy hB h hs hm aa hv;cases b
 ·rw[EN]at HB
  have ah:(((v &&& (4294967295-s.getD m 0):Nat):Int) != 0)=b2:=by
   have h1:=HN.o;have h2:=HA.o;rw[<-HB.o];by_cases e:v &&& (4294967295-s.getD m 0)=0
   ·rw[e,AM (p:=Gm.addN s m v≠s) (fun hn=>hn (h2.2 (h1.1 e)))];rfl
   ·rw[AJ (p:=Gm.addN s m v≠s) (fun he=>e (h1.2 (h2.1 he)))];rw[Du];omega
  generalize v &&& (4294967295-s.getD m 0)=d at *;generalize s.getD m 0 ||| v=d2 at *;generalize s.getD m 0=d3 at *;clear HN HA HB HH
  go_enter Tryz.func227,Tryz.ntmps227
  go_upto_region 1 with fail
  rw[<-f];clear f c0 c1 f1 cm;go_wp2;go_end0
  exact⟨rfl,HZ.o,by rw[<-ab.o];simp,ac.o⟩
 ·rw[Ds]at HB;obtain rfl:=HB.o;generalize s.getD m 0 ||| v=d2 at *;generalize s.getD m 0=d3 at *;clear HN HA HB HH hx
  go_enter Tryz.func227,Tryz.ntmps227
  go_upto_region 1 with fail
  rw[<-f];clear f c0 c1 f1 cm;go_wp2;go_end0
  exact⟨rfl,HZ.o,by rw[<-ab.o];simp,ac.o⟩
theorem Gm.new_or {s s1 s2:List Nat} (h1:Gm.NLe s s1) (h2:Gm.NLe s1 s2):(decide (s1≠s)||decide (s2≠s1))=decide (s2≠s):=by
 by_cases e:s1=s
 ·subst e;simp
 ·rw[AJ e,Ds]
  symm
  rw[Ca];rintro rfl;exact e (h1.anti h2)
theorem zhR (fb:Nat) (caps:Array Value) (hE:∀args w,Sem.run Tryz.prog (callFunc fb args) w=.ok (.enter fb args) w) (rs:List Gm.Rl) (AR:Option Addr) (cR ck B gk n:Nat) (w:World) (s0:List Nat) (P:List Nat->Prop) (br:List Nat->Gm.Rl->List Nat) (hR:zd3 w B AR rs) (hB:B<=w.heap.size) (ak:B<=gk) (hu:UBZ w gk s0) (hn:s0.length=n) (h0:P s0) (hl:rs.length<=1000000) (al:∀s x,Gm.NLe s (br s x)) (hP:∀s x,x∈rs->P s->P (br s x)) (am:∀s,P s->Gm.U32 s) (ao:∀(y:World) (s:List Nat) (b:Bool) (x:Gm.Rl) (A':Option Addr) (c':Nat),GSt w y gk n ck s b->P s->x∈rs->RdI y B A' x.r->x.r.length<=c'->Calls Tryz.prog fb (#[.agg #[.int .i64 x.l,.slice A' x.r.length c',.int .i64 x.p],.func (Fn.func 227) #[] #[.pointer (some ⟨w.heap.size+1,0,none⟩),.pointer (some ⟨w.heap.size,0,none⟩)]]++caps) y fun e w'=>e=.returned (.tuple #[])/\GSt w w' gk n ck (br s x) (b||decide (br s x≠s))/\y.heap.size<=w'.heap.size) :
  Calls Tryz.prog 214 #[.slice (some ⟨gk,0,none⟩) n ck,.slice AR rs.length cR,.func (Fn.func fb) #[] caps] w fun e w'=>e=.returned (.tuple #[])/\∃s,P s/\(∀x∈rs,br s x=s)/\UBZ w' gk s/\s.length=n/\w.grownBy w' (some gk):=by
 have HR:=aA hR;have HB:=aA hB;have HK:=aA ak;have ax:=aA ao;have ap:=aA al;have HP:=aA hP;have ay:=aA am;have az:(rs.length:Int)<=9223372036854775807:=by omega
 have ac:=Az w (.cells #[.slice (some ⟨gk,0,none⟩) n ck] 102);have ad:=hu.alloc (.cells #[.slice (some ⟨gk,0,none⟩) n ck] 102);obtain⟨w1,f⟩:∃y,y=w.alloc (.cells #[.slice (some ⟨gk,0,none⟩) n ck] 102):=⟨_,rfl⟩
 rw[<-f]at ac ad;have a0:w1.heap.size=w.heap.size+1:=by rw[f];simp
 have aq:w.grownBy w1 (some gk):=by rw[f];exact aG (AI _ _) _
 have ae:GSt w (w1.alloc (.cells #[.bool true] 4)) gk n ck s0 true :=
  ⟨ad.alloc _,hn,(BI _ _ _ (by omega)).trans ac,by rw[<-a0];exact Az w1 _,aG aq _,hu.lt⟩
 obtain⟨w2,af⟩:∃y,y=w1.alloc (.cells #[.bool true] 4):=⟨_,rfl⟩
 rw[<-af]at ae;have a1:=aA ae;have H0:=aA h0;clear hR hB ak hu hn hl ao al hP am ac ad aq ae h0
 go_enter Tryz.func214,Tryz.ntmps214
 go_upto_region 1 with fail
 rw[<-f];clear f;go_upto_region 2 with fail
 rw[<-af];clear af;go_wp2;go_loopw [11] (fun _ wr=>∃(s:List Nat) (b:Bool),Hid (GSt w wr gk n ck s b)/\Hid (P s)/\Hid (b=false->∀x∈rs,br s x=s)) (fun _ wr=>2*znT wr gk+bC wr (w.heap.size+1))
 case atStart=>exact⟨s0,true,a1,H0,aA (fun h=>by cases h)⟩
 case round =>
  obtain⟨s,b,HG,HS,HC⟩:=hrel;obtain⟨wo,a2⟩:∃wo:World,wo=wr:=⟨_,rfl⟩
  subst a2;have c1:=aM HG.o.p;have f1:=AD wo _ 0 _ _ HG.o.p;have hd:=HG.o.hs;cases b
  ·go_wp2;go_end0
   exact⟨rfl,s,HS.o,HC.o (by trivial),HG.o.u,HG.o.l,HG.o.g⟩
  ·clear HC;obtain⟨wf,ag⟩:∃y,y=wo.setCell ⟨w.heap.size+1,0,none⟩ (.bool false):=⟨_,rfl⟩
   have HF:Hid (GSt w wf gk n ck s false):=aA (by rw[ag];exact HG.o.grew false);go_upto_region 5 with fail
   rw[<-ag];clear c1 f1 ag;go_wp2;go_loopw [14] (fun vi wr=>∃(s1:List Nat) (b1:Bool) (i:Nat),i<=rs.length/\vi=.int .i64 i/\Hid (GSt w wr gk n ck s1 b1)/\Hid (P s1)/\Hid (Gm.NLe s s1)/\Hid (b1=decide (s1≠s))/\Hid (s1=(rs.take i).foldl br s)) (fun vi _=>rs.length-(intOf vi).toNat)
   case atStart=>exact⟨s,false,0,AX _,rfl,HF,HS,aA (Gm.NLe.refl _),aA (by simp),aA rfl⟩
   case round =>
    obtain⟨s1,b1,i,hi,rfl,d,aa,ah,ab,ai⟩:=hrel;obtain⟨wi,a3⟩:∃wi:World,wi=wr:=⟨_,rfl⟩
    subst a3;by_cases j:i<rs.length
    ·obtain⟨g,o,rfl,aj,hc⟩:=HR.o (by omega);obtain⟨k0,⟨A',c',k1,ar,_,au⟩,k2⟩:=hc i j;have k0:=(zam d.o.g HB.o HK.o aj).trans k0;have k1:=(zam d.o.g HB.o HK.o aj).trans k1;have k2:=(zam d.o.g HB.o HK.o aj).trans k2;have a4:g<wi.heap.size:=by have:=d.o.g.size;have:=HB.o;omega
     have a5:=aA (fun(o:Obj)=>ax.o (wi.alloc o) s1 b1 rs[i] A' c' (d.o.alloc o) aa.o (Ay j) (au.keep fun g o hg=>zam (d.o.alloc _).g HB.o HK.o hg) ar);have av:=aA (ap.o s1 rs[i]);have a6:=aA (HP.o s1 rs[i] (Ay j) aa.o);have a9:Hid (rs.take (i+1)=rs.take i++[rs[i]]):=aA (AO j);clear hc au ar;generalize rs[i]=x at *;go_wp2_with fail
     refine(a5.o _).mono ?_;rintro _ w2 ⟨rfl,aw,ba⟩;have bb:=aA aw;clear aw ba k0 k1 k2 a4;go_wp2;go_roundw
     case rel=>exact⟨br s1 x,_,i+1,j,by go_num,bb,a6,aA (ah.o.trans av.o),aA (by rw[ab.o];exact Gm.new_or ah.o av.o),aA (by rw[a9.o,List.foldl_append,<-ai.o];rfl)⟩
     case measure=>simp[intOf];omega
    ·obtain rfl:i=rs.length:=by omega
     rw[Bo]at ai;go_wp2;go_roundw
     case rel=>exact⟨s1,b1,d,aa,aA fun e x hx=>by
      have e1:s1=s:=by
       have:=ab.o
       rw[e]at this;exact BO fun h=>by rw[AJ h]at this;cases this
      have h2:=ai.o;rw[e1]at h2 ⊢;exact Gm.fold_rest ap.o rs s h2.symm x hx⟩
     case measure =>
      have q1:=HG.o.u.cnt;have q2:=d.o.u.cnt;have q3:=zmS HG.o.p;have q4:=zmS d.o.p;rw[q1,q2,q3,q4];cases b1
      ·have e1:s1=s:=by
        have:=ab.o
        exact BO fun h=>by rw[AJ h]at this;cases this
       rw[e1];simp
      ·have e1:s1≠s:=Cq ab.o.symm
       have:=Gm.gap_lt ah.o (ay.o s1 aa.o) (fun e=>e1 e.symm)
       simp;omega
end Go.Proofs.YtjjbaehamplnaaaGreat
namespace Go.Proofs.YtjjbaehamplnaaaGreat
open Go.RowKit
def zio (g h:Nat) (w:World):Type:={x:World // x.heap[g]?=w.heap[g]?/\x.heap[h]?=w.heap[h]?}
instance (g h:Nat) (w:World):Nonempty (zio g h w):=⟨⟨w,rfl,rfl⟩⟩
structure RlIn (nt nn:Nat) (x:Gm.Rl):Prop where
 i:∀z∈x.r,Gm.In z
 t:∀z∈x.r,z<=31
 n:∀z∈x.r,z<0->-1-z<(nn:Int)
 l0:0<=x.l
 l1:x.l<(nn:Int)
 c:x.r.length<=6
theorem rlIn (hf:Gm.Fit G) (b:Gm.Ok G) {x:Gm.Rl} (hx:x∈G.rs):RlIn G.ts.length G.ns.length x:=by
 have h1:=Gm.rule_in (b.rr x hx);have h2:=(Gm.terms_iff G.ts).1 b.t;exact⟨(hf.r x hx).2.2,fun z hz=>by have:=(h1.2.2.2 z hz).1;omega,fun z hz h=>b.sin x hx z hz h,(b.lin x hx).1,(b.lin x hx).2,h1.1⟩
theorem zf0 (w y:World) (gk n ck kp nt:Nat) (s:List Nat) (b:Bool) (nu:List Bool) (A1 A':Option Addr) (c1 c' B:Nat) (x:Gm.Rl) (h:GSt w y gk n ck s b) (ag:y.heap[kp]?=some (.cells #[.slice A1 n c1,.slice (some ⟨gk,0,none⟩) n ck] 258 (0,0))) (h1:RdO y y.heap.size A1 nu) (ac:nu.length=n) (ah:kp≠gk) (ai:kp<w.heap.size) (hr:RdI y B A' x.r) (hB:B<=y.heap.size) (hU:Gm.U32 s) (hx:RlIn nt n x) :
  Calls Tryz.prog 215 #[.agg #[.int .i64 x.l,.slice A' x.r.length c',.int .i64 x.p],.func (Fn.func 227) #[] #[.pointer (some ⟨w.heap.size+1,0,none⟩),.pointer (some ⟨w.heap.size,0,none⟩)],.pointer (some ⟨kp,0,none⟩)] y fun e w'=>e=.returned (.tuple #[])/\GSt w w' gk n ck (Gm.firstN1 nu s x) (b||decide (Gm.firstN1 nu s x≠s))/\y.heap.size<=w'.heap.size:=by
 obtain⟨y1,g⟩:∃z,z=y.alloc (.cells #[.int .i64 x.l,.slice A' x.r.length c',.int .i64 x.p] 74):=⟨_,rfl⟩
 have j:Below y.heap.size y y1:=by rw[g];exact(Aq _ y).alloc (Ad _) _
 have aj:y1.heap.size=y.heap.size+1:=by rw[g];simp
 have A:y1.heap[y.heap.size]?=some (.cells #[.int .i64 x.l,.slice A' x.r.length c',.int .i64 x.p] 74 (0,0)):=by rw[g];exact Az y _
 have aa:=aC j ag;have C:=h.below j;have hl:s.length=n:=h.l;obtain⟨l,r,p⟩:=x;obtain⟨m,rfl⟩:∃m:Nat,l=(m:Int):=⟨l.toNat,by have:=hx.l0;simp only at this;omega⟩
 simp only at hr A ⊢;have ak:m<n:=by have:=hx.l1;simp only at this;omega
 have HE:Hid (Gm.firstN1 nu s ⟨(m:Int),r,p⟩=Gm.addN s m (Gm.ofN nu s 0 r)):=aA (by unfold Gm.firstN1;simp);rw[HE.o];have hv:Gm.ofN nu s 0 r<4294967296:=Gm.U32.ofN hU (by decide) hx.t;have al:=aA (fun(z:World) (hz:Below y1.heap.size y1 z)=>zhC r 0 nu s A' A1 (some ⟨gk,0,none⟩) c' c1 ck B y.heap.size (gk+1) z ((hr.below j hB).below hz (by omega)) ((h1.below j (Ad _)).below hz (by omega)) ((C.u.below hz C.u.lt).rd (by omega)) (by have:=hz.size;omega) (by have:=hz.size;omega) (by have:=hz.size;have:=C.u.lt;omega) hx.i hx.t (fun z hz h=>by rw[hl];exact hx.n z hz h) (by rw[ac,hl]) hU (by decide) (by have:=hx.c;simp only at this;omega));rw[ac,hl]at al;have av:=aA (fun(z:World) (hz:Below y1.heap.size y1 z)=>zjj w z gk n ck s b m (Gm.ofN nu s 0 r) ak hv hU (C.below hz));generalize Gm.ofN nu s 0 r=v at *;have D:=aA aj;have am:=aA (BJ ah ai);have HG:=aA (BJ h.k h.hs);have q0:=fun z:zio y.heap.size kp y1=>Aw z.1 _ 0 _ _ _ (z.2.1.trans A);have q1:=fun z:zio y.heap.size kp y1=>Aw z.1 _ 1 _ _ _ (z.2.1.trans A);have q3:=fun z:zio y.heap.size kp y1=>Aw z.1 _ 0 _ _ _ (z.2.2.trans aa);have q4:=fun z:zio y.heap.size kp y1=>Aw z.1 _ 1 _ _ _ (z.2.2.trans aa);have ay:=aA A;have ao:=aA aa;clear hr h1 hx hU hv ak hl j C h ag hB ac aj HE A aa ah ai
 go_enter Tryz.func215,Tryz.ntmps215
 go_upto_region 1 with fail
 rw[<-g];clear g;refine CalmN.region_tree (fun x=>∃z:zio y.heap.size kp y1,x=z.1) (.one [0,1,2,3,4,5] 6 (.one [] 7 (.fin []))) (by kernel_rfl) (by kernel_rfl) (fun _ _ d _ _ h=>by cases d <;> exact h) ⟨⟨y1.drew,rfl,rfl⟩,rfl⟩ ?_;simp only[CalmN.wpT,CalmN.wpSt,CalmN.pickOps,Am,Af,Ah];repeat (go_big_quiet_step (fail))
 refine Aj ?_;have ab:Hid (Below y1.heap.size y1 y1.drew):=aA (aB (Aq _ _) 1);obtain⟨yd,ap⟩:∃z,z=y1.drew:=⟨_,rfl⟩
 rw[<-ap]at ab ⊢;clear ap q0 q1 q3 q4;intro KK E;rw[Ap (by rfl)];go_wp2_with fail
 refine(al.o _ ab.o).mono ?_;rintro _ w3 ⟨rfl,aq⟩;have f:=aA (ab.o.trans (aq.mono ab.o.size));clear aq;go_wp2_with fail
 have ad:∃z:zio y.heap.size kp y1,w3=z.1:=⟨⟨w3,f.o.block _ (by have:=D.o;omega),f.o.block _ (Ac.1 ao.o).1⟩,rfl⟩
 refine E _ _ ad _ (fun _ h=>h) ad ?_;clear E ad;refine Aj ?_;intro KK E;rw[Ap (by rfl)];go_wp2_with fail
 refine(av.o _ f.o).mono ?_;rintro _ w4 ⟨rfl,ar,au,ae⟩;have aw:=aA ar;have ax:Hid (y.heap.size<=w4.heap.size):=aA (by rw[au];have:=f.o.size;have:=D.o;omega);have af:∃z:zio y.heap.size kp y1,w4=z.1:=⟨⟨w4,(ae _ (by have:=HG.o;have:=D.o;omega) (by have:=HG.o;have:=D.o;omega)).trans (f.o.block _ (by have:=D.o;omega)),(ae _ am.o.1 (by have:=am.o;omega)).trans (f.o.block _ (Ac.1 ao.o).1)⟩,rfl⟩
 clear ar au ae;go_wp2_with fail
 refine E _ _ af _ (fun _ h=>h) af ?_;clear E af;refine Aj ?_;go_wp2;go_end0
 exact⟨rfl,aw.o,ax.o⟩
end Go.Proofs.YtjjbaehamplnaaaGreat
