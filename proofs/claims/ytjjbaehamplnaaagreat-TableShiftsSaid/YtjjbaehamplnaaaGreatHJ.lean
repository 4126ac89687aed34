/- Part of the proofs over this program: Ints, CfgSame, CfgSame2, TrimReduce, AuFn, AuWalk, AuWalk2, LookE, LookF, WordsU, SetW, ApQ, ItE, RowM. -/
import Derived.Laws.BitsAllLaws
import Derived.Laws.Shifts
import Derived.Maps.Keyed
import Derived.DeepKeys4
import Derived.Test.YtjjbaehamplnaaaGreatHI
set_option linter.all false
namespace Go
def DE:=@Go.World.drewN_drewN
def Fdq:=@Go.u32_or_nat
def EE:=@Array.getElem?_toList
end Go
open Go.RowKit Go.Proofs.Tryz
variable {A:Option Go.Addr} {B B' N b base g i k n:Nat} {E:List (List (Int×Int))} {G:Go.Proofs.YtjjbaehamplnaaaGreat.Gm.Gr} {ks ls zs:List Int} {ops:Array Go.Oper} {p:Go.Addr} {s:Int} {w w' wr:Go.World}
set_option maxRecDepth 100000
set_option maxHeartbeats 40000000
namespace Go.Proofs.YtjjbaehamplnaaaGreat
theorem RH (A A':Option Addr) (ca cb:Nat) (xs ys:List Int) (w:World) (ab:gg w w.heap.size A xs) (ac:gg w w.heap.size A' ys) (ag:xs.length<=9223372036854775807) (ad:ys.length<=9223372036854775807) :
  Calls prog 34 #[.slice A xs.length ca,.slice A' ys.length cb] w fun e w'=>e=.returned (.bool (decide (xs=ys)))/\∃n,w'=w.drewN n:=by
 by_cases hl:xs.length=ys.length
 ·have HL:=aA hl;rw[<-hl];have ae:((xs.length:Int) != (xs.length:Int))=false:=σ
  clear hl ad
  go_enter func34,ntmps34
  go_wp2;go_loopw [5] (fun vi wr=>∃(k q:Nat),k<=xs.length/\vi=.int .i64 k/\xs.take k=ys.take k/\wr=w.drewN q) (fun vi _=>xs.length-(intOf vi).toNat)
  case atStart=>exact⟨0,0,Bb _,rfl,rfl,rfl⟩
  case round =>
   obtain⟨k,q,hk,rfl,ht,d⟩:=hrel;have HT:=aA ht;have HW:=aA d;by_cases aa:k<xs.length
   ·obtain⟨ga,oa,rfl,_,ha⟩:=ab ω;obtain⟨gb,ob,rfl,_,hb⟩:=ac (by have:=HL.o;omega);have ca':wr.cell? ⟨ga,oa+k,none⟩=some (.int .i64 (xs.getD k 0)):=by rw[d];exact ha k aa
    have cb':wr.cell? ⟨gb,ob+k,none⟩=some (.int .i64 (ys.getD k 0)):=by rw[d];exact hb k (by have:=HL.o;omega)
    have k0:(0:Int)<=(k:Int):=ω
    have k1:(k:Int)<(xs.length:Int):=ω
    clear ha hb ht d ab ac;by_cases b:xs.getD k 0=ys.getD k 0
    ·have HN:Hid (xs.take (k+1)=ys.take (k+1)):=by
      show xs.take (k+1)=ys.take (k+1)
      rw[L.jt xs k aa,L.jt ys k (by have:=HL.o;omega),HT.o,b]
     rw[<-b]at cb';generalize xs.getD k 0=x at *;have af:(x != x)=false:=σ
     clear b;go_wp2_with fail
     go_quiet (fail)
     go_wp2;go_roundw
     case rel=>exact⟨k+1,_,aa,ν,HN.o,by rw[HW.o];exact DE _ _ _⟩
     case measure=>simp[intOf];omega
    ·have HN:Hid (decide (xs=ys)=false):=by
      show decide (xs=ys)=false
      rw[Es];rintro rfl;exact b rfl
     generalize xs.getD k 0=x at *;generalize ys.getD k 0=y at *;have af:(x != y)=true:=by simpa using b
     clear b;go_wp2_with fail
     go_quiet (fail)
     go_wp2;go_ret
     exact⟨aD HN.o.symm,_,by rw[HW.o,DE]⟩
   ·obtain rfl:k=xs.length:=ω
    have HE:Hid (decide (xs=ys)=true):=by
     show decide (xs=ys)=true
     rw[Cr];have h:=HT.o
     rwa [Bp,HL.o,Bp]at h
    clear ht;subst d;go_wp2;go_ret
    exact⟨aD HE.o.symm,_,rfl⟩
 ·have HE:Hid (decide (xs=ys)=false):=by
   show decide (xs=ys)=false
   rw[Es];rintro rfl;exact hl rfl
  have ae:((xs.length:Int) != (ys.length:Int))=true:=by simp;omega
  go_enter func34,ntmps34
  go_wp2;go_ret
  exact⟨aD HE.o.symm,0,rfl⟩
noncomputable def jf {α:Type} (a b:α):Bool:=@decide (a=b) (Classical.propDecidable _)
theorem oY {α:Type} {a b:α} (h:a=b):jf a b=true:=by unfold jf;exact @AV _ (Classical.propDecidable _) h
theorem qo {α:Type} {a b:α} (h:¬a=b):jf a b=false:=by unfold jf;exact @AU _ (Classical.propDecidable _) h
theorem ME (s s':ByteArray) (a a' b b':Int) (w:World):(Op.equalIn 10000 85 (.agg #[.string s,.int .i64 a,.int .i64 b]) (.agg #[.string s',.int .i64 a',.int .i64 b'])).run prog w=.ok ((s.toList==s'.toList)&&(a==a')&&(b==b')) w:=by
 have u3:=underlying3;have a3:=isAgg3;have z3:=sizeOf3;have u9:=underlying9;have a9:=isAgg9;have z9:=sizeOf9;have hS:prog.underlying 85=some (.struct (prog.fieldsOf 85)):=κ
 rw[show(10000:Nat)=9999+1 from rfl,run_equalIn_agg w 9999 85 _ _ hS κ];simp only[Program.fieldsOf,underlying85]
 go_simp
 by_cases h0:s.toList=s'.toList <;> by_cases h1:a=a' <;> by_cases h2:b=b' <;> simp[h0,h1,h2]
theorem MD {x y:Gm.Tm} (hx:K.Tx x.nm) (hy:K.Tx y.nm):(((K.str x.nm).toList==(K.str y.nm).toList)&&(x.lv==y.lv)&&(x.wy==y.wy))=jf x y:=by
 rw[K.Gb hx hy];by_cases h:x=y
 ·subst h;rw[oY rfl];simp
 ·rw[qo h];rw[CW,CW];by_cases h1:x.nm=y.nm
  ·by_cases h2:x.lv=y.lv
   ·by_cases h3:x.wy=y.wy
    ·exact absurd (by cases x;cases y;simp_all) h
    ·exact .inr (by simpa using h3)
   ·exact .inl (.inr (by simpa using h2))
  ·exact .inl (.inl (by simpa using h1))
def a8 {α:Type} (xs ys:List α) (k:Nat):Prop:=xs.take k=ys.take k
theorem a8.zero {α:Type} (xs ys:List α):a8 xs ys 0:=rfl
theorem a8.next {α:Type} {xs ys:List α} (h:a8 xs ys k) (h1:k<xs.length) (h2:k<ys.length) (e:xs[k]=ys[k]):a8 xs ys (k+1):=by
 unfold a8 at *;rw[AP h1,AP h2,h,e]
theorem a8.all {α:Type} {xs ys:List α} (h:a8 xs ys k) (hk:k=xs.length) (hl:xs.length=ys.length):jf xs ys=true:=by
 unfold a8 at h;rw[hk,Bp,hl,Bp]at h;exact oY h
theorem xY {α:Type} {xs ys:List α} (h1:k<xs.length) (h2:k<ys.length) (e:¬xs[k]=ys[k]):jf xs ys=false:=qo fun h=>e (by subst h;rfl)
theorem zS {α:Type} {xs ys:List α} (h:¬xs.length=ys.length):jf xs ys=false:=qo fun e=>h (by rw[e])
theorem Rx (A A':Option Addr) (ca cb B B':Nat) (xs ys:List (List Int)) (w:World) (ab:tW w B A xs) (ac:tW w B' A' ys) (hx:∀x∈xs,K.Tx x) (hy:∀y∈ys,K.Tx y) (af:xs.length<=9223372036854775807) :
  Calls prog 135 #[.slice A xs.length ca,.slice A' ys.length cb] w fun e w'=>e=.returned (.bool (jf xs ys))/\∃n,w'=w.drewN n:=by
 by_cases hl:xs.length=ys.length
 ·have HL:=aA hl;rw[<-hl];have ae:((xs.length:Int) != (xs.length:Int))=false:=σ
  have HA:=aA ab;have ad:=aA ac;have HX:=aA hx;have HY:=aA hy;clear hx hy;clear hl ab ac
  go_enter func135,ntmps135
  go_wp2;go_loopw [13] (fun vi wr=>∃(k q:Nat),k<=xs.length/\vi=.int .i64 k/\a8 xs ys k/\wr=w.drewN q) (fun vi _=>xs.length-(intOf vi).toNat)
  case atStart=>exact⟨0,0,Bb _,rfl,a8.zero _ _,rfl⟩
  case round =>
   obtain⟨k,q,hk,rfl,ht,d⟩:=hrel;have HT:=aA ht;have HW:=aA d;clear ht;by_cases hlt:k<xs.length
   ·have aa:k<ys.length:=by have:=HL.o;omega
    obtain⟨ga,oa,rfl,_,ha⟩:=HA.o ω;obtain⟨gb,ob,rfl,_,hb⟩:=ad.o ω;have ca':wr.cell? ⟨ga,oa+k,none⟩=some (.string (K.str xs[k])):=by rw[d];exact ha k hlt
    have cb':wr.cell? ⟨gb,ob+k,none⟩=some (.string (K.str ys[k])):=by rw[d];exact hb k aa
    have E:((K.str xs[k]).toList==(K.str ys[k]).toList)=jf xs[k] ys[k]:=by
     rw[K.Gb (HX.o _ (AD hlt)) (HY.o _ (AD aa))];by_cases h:xs[k]=ys[k]
     ·rw[oY h];simpa using h
     ·rw[qo h];simpa using h
    have E':((K.str xs[k]).toList != (K.str ys[k]).toList) = !jf xs[k] ys[k]:=by rw[bne,E]
    have k0:(0:Int)<=(k:Int):=ω
    have k1:(k:Int)<(xs.length:Int):=ω
    clear ha hb d HA ad;by_cases b:xs[k]=ys[k]
    ·have HN:Hid (a8 xs ys (k+1)):=aA (HT.o.next hlt aa b);rw[oY b]at E E';clear b;generalize K.str xs[k]=x at *;generalize K.str ys[k]=y at *;rw[Bool.not_true]at E';go_wp2_with fail
     go_quiet (fail)
     go_wp2;go_roundw
     case rel=>exact⟨k+1,_,hlt,ν,HN.o,by rw[HW.o];exact DE _ _ _⟩
     case measure=>simp[intOf];omega
    ·have HN:Hid (jf xs ys=false):=aA (xY hlt aa b);rw[qo b]at E E';clear b;generalize K.str xs[k]=x at *;generalize K.str ys[k]=y at *;rw[Bool.not_false]at E';go_wp2_with fail
     go_quiet (fail)
     go_wp2;go_ret
     exact⟨aD HN.o.symm,_,by rw[HW.o,DE]⟩
   ·obtain rfl:k=xs.length:=ω
    have HE:=aA (HT.o.all rfl HL.o);subst d;go_wp2;go_ret
    exact⟨aD HE.o.symm,_,rfl⟩
 ·have HE:=aA (zS hl);have ae:((xs.length:Int) != (ys.length:Int))=true:=by simp;omega
  clear hl
  go_enter func135,ntmps135
  go_wp2;go_ret
  exact⟨aD HE.o.symm,0,rfl⟩
theorem P8 (A A':Option Addr) (ca cb B B':Nat) (xs ys:List Int) (w:World) (ab:gg w B A xs) (ac:gg w B' A' ys) (af:xs.length<=9223372036854775807) :
  Calls prog 182 #[.slice A xs.length ca,.slice A' ys.length cb] w fun e w'=>e=.returned (.bool (jf xs ys))/\∃n,w'=w.drewN n:=by
 by_cases hl:xs.length=ys.length
 ·have HL:=aA hl;rw[<-hl];have ae:((xs.length:Int) != (xs.length:Int))=false:=σ
  have HA:=aA ab;have ad:=aA ac;clear hl ab ac
  go_enter func182,ntmps182
  go_wp2;go_loopw [13] (fun vi wr=>∃(k q:Nat),k<=xs.length/\vi=.int .i64 k/\a8 xs ys k/\wr=w.drewN q) (fun vi _=>xs.length-(intOf vi).toNat)
  case atStart=>exact⟨0,0,Bb _,rfl,a8.zero _ _,rfl⟩
  case round =>
   obtain⟨k,q,hk,rfl,ht,d⟩:=hrel;have HT:=aA ht;have HW:=aA d;clear ht;by_cases hlt:k<xs.length
   ·have aa:k<ys.length:=by have:=HL.o;omega
    obtain⟨ga,oa,rfl,_,ha⟩:=HA.o ω;obtain⟨gb,ob,rfl,_,hb⟩:=ad.o ω;have ca':wr.cell? ⟨ga,oa+k,none⟩=some (.int .i64 xs[k]):=by rw[d,<-L.fy hlt];exact ha k hlt
    have cb':wr.cell? ⟨gb,ob+k,none⟩=some (.int .i64 ys[k]):=by rw[d,<-L.fy aa];exact hb k aa
    have E:(xs[k]==ys[k])=jf xs[k] ys[k]:=by
     by_cases h:xs[k]=ys[k]
     ·rw[oY h];simpa using h
     ·rw[qo h];simpa using h
    have E':(xs[k] != ys[k]) = !jf xs[k] ys[k]:=by rw[bne,E]
    have k0:(0:Int)<=(k:Int):=ω
    have k1:(k:Int)<(xs.length:Int):=ω
    clear ha hb d HA ad;by_cases b:xs[k]=ys[k]
    ·have HN:Hid (a8 xs ys (k+1)):=aA (HT.o.next hlt aa b);rw[oY b]at E E';clear b;generalize xs[k]=x at *;generalize ys[k]=y at *;rw[Bool.not_true]at E';go_wp2_with fail
     go_quiet (fail)
     go_wp2;go_roundw
     case rel=>exact⟨k+1,_,hlt,ν,HN.o,by rw[HW.o];exact DE _ _ _⟩
     case measure=>simp[intOf];omega
    ·have HN:Hid (jf xs ys=false):=aA (xY hlt aa b);rw[qo b]at E E';clear b;generalize xs[k]=x at *;generalize ys[k]=y at *;rw[Bool.not_false]at E';go_wp2_with fail
     go_quiet (fail)
     go_wp2;go_ret
     exact⟨aD HN.o.symm,_,by rw[HW.o,DE]⟩
   ·obtain rfl:k=xs.length:=ω
    have HE:=aA (HT.o.all rfl HL.o);subst d;go_wp2;go_ret
    exact⟨aD HE.o.symm,_,rfl⟩
 ·have HE:=aA (zS hl);have ae:((xs.length:Int) != (ys.length:Int))=true:=by simp;omega
  clear hl
  go_enter func182,ntmps182
  go_wp2;go_ret
  exact⟨aD HE.o.symm,0,rfl⟩
theorem Rw (A A':Option Addr) (ca cb B B':Nat) (xs ys:List Gm.Tm) (w:World) (aa:rO w B A xs) (ab:rO w B' A' ys) (hx:∀x∈xs,K.Tx x.nm) (hy:∀y∈ys,K.Tx y.nm) (ae:xs.length<=9223372036854775807) :
  Calls prog 134 #[.slice A xs.length ca,.slice A' ys.length cb] w fun e w'=>e=.returned (.bool (jf xs ys))/\∃n,w'=w.drewN n:=by
 by_cases hl:xs.length=ys.length
 ·have HL:=aA hl;rw[<-hl];have ad:((xs.length:Int) != (xs.length:Int))=false:=σ
  have HA:=aA aa;have ac:=aA ab;have HX:=aA hx;have HY:=aA hy;clear hx hy;clear hl aa ab
  go_enter func134,ntmps134
  go_wp2;go_loopw [13] (fun vi wr=>∃(k q:Nat),k<=xs.length/\vi=.int .i64 k/\a8 xs ys k/\wr=w.drewN q) (fun vi _=>xs.length-(intOf vi).toNat)
  case atStart=>exact⟨0,0,Bb _,rfl,a8.zero _ _,rfl⟩
  case round =>
   obtain⟨k,q,hk,rfl,ht,d⟩:=hrel;have HT:=aA ht;have HW:=aA d;clear ht;by_cases hlt:k<xs.length
   ·have b:k<ys.length:=by have:=HL.o;omega
    obtain⟨ga,oa,rfl,_,ha⟩:=HA.o ω;obtain⟨gb,ob,rfl,_,hb⟩:=ac.o ω;have ca0:wr.cell? ⟨ga,oa+k*3,none⟩=some (.string (K.str xs[k].nm)):=by rw[d];exact(ha k hlt).1
    have ca1:wr.cell? ⟨ga,oa+k*3+1,none⟩=some (.int .i64 xs[k].lv):=by rw[d];exact(ha k hlt).2.1
    have ca2:wr.cell? ⟨ga,oa+k*3+2,none⟩=some (.int .i64 xs[k].wy):=by rw[d];exact(ha k hlt).2.2
    have cb0:wr.cell? ⟨gb,ob+k*3,none⟩=some (.string (K.str ys[k].nm)):=by rw[d];exact(hb k b).1
    have cb1:wr.cell? ⟨gb,ob+k*3+1,none⟩=some (.int .i64 ys[k].lv):=by rw[d];exact(hb k b).2.1
    have cb2:wr.cell? ⟨gb,ob+k*3+2,none⟩=some (.int .i64 ys[k].wy):=by rw[d];exact(hb k b).2.2
    have E0:=MD (HX.o _ (AD hlt)) (HY.o _ (AD b));have E:=fun w=>ME (K.str xs[k].nm) (K.str ys[k].nm) xs[k].lv ys[k].lv xs[k].wy ys[k].wy w;rw[E0]at E;clear E0;have k0:(0:Int)<=(k:Int):=ω
    have k1:(k:Int)<(xs.length:Int):=ω
    clear ha hb d HA ac;by_cases f:xs[k]=ys[k]
    ·have HN:Hid (a8 xs ys (k+1)):=aA (HT.o.next hlt b f);rw[oY f]at E;clear f;generalize K.str xs[k].nm=x0 at *;generalize K.str ys[k].nm=y0 at *;generalize xs[k].lv=x1 at *;generalize ys[k].lv=y1 at *;generalize xs[k].wy=x2 at *;generalize ys[k].wy=y2 at *;go_wp2_with fail
     go_quiet (fail)
     go_wp2;go_roundw
     case rel=>exact⟨k+1,_,hlt,ν,HN.o,by rw[HW.o];exact DE _ _ _⟩
     case measure=>simp[intOf];omega
    ·have HN:Hid (jf xs ys=false):=aA (xY hlt b f);rw[qo f]at E;clear f;generalize K.str xs[k].nm=x0 at *;generalize K.str ys[k].nm=y0 at *;generalize xs[k].lv=x1 at *;generalize ys[k].lv=y1 at *;generalize xs[k].wy=x2 at *;generalize ys[k].wy=y2 at *;go_wp2_with fail
     go_quiet (fail)
     go_wp2;go_ret
     exact⟨aD HN.o.symm,_,by rw[HW.o,DE]⟩
   ·obtain rfl:k=xs.length:=ω
    have HE:=aA (HT.o.all rfl HL.o);subst d;go_wp2;go_ret
    exact⟨aD HE.o.symm,_,rfl⟩
 ·have HE:=aA (zS hl);have ad:((xs.length:Int) != (ys.length:Int))=true:=by simp;omega
  clear hl
  go_enter func134,ntmps134
  go_wp2;go_ret
  exact⟨aD HE.o.symm,0,rfl⟩
def Hj (x:Gm.Rl) (A:Option Addr) (c:Nat):Value:=.agg #[.int .i64 x.l,.slice A x.r.length c,.int .i64 x.p]
theorem SX (x y:Gm.Rl):(jf x.l y.l&&jf x.r y.r&&jf x.p y.p)=jf x y:=by
 by_cases h:x=y
 ·subst h;rw[oY rfl,oY rfl,oY rfl,oY rfl];rfl
 ·rw[qo h];rw[CW,CW];by_cases h1:x.l=y.l
  ·by_cases h2:x.r=y.r
   ·by_cases h3:x.p=y.p
    ·exact absurd (by cases x;cases y;simp_all) h
    ·exact .inr (qo h3)
   ·exact .inl (.inr (qo h2))
  ·exact .inl (.inl (qo h1))
theorem JP (a b:Int):(a==b)=jf a b:=by
 by_cases h:a=b
 ·rw[oY h];simpa using h
 ·rw[qo h];simpa using h
theorem KD (h:∃n,w'=w.drewN n):β w w':=by
 obtain⟨n,rfl⟩:=h;exact aB (AB _ _) n
theorem Ow (x y:Gm.Rl) (A A':Option Addr) (c c' B B':Nat) (w:World) (aa:gg w B A x.r) (ab:gg w B' A' y.r) (hB:B<=w.heap.size) (ad:B'<=w.heap.size) (ac:x.r.length<=9223372036854775807) :
  Calls prog 137 #[Hj x A c,Hj y A' c'] w fun e w'=>e=.returned (.bool (jf x y))/\β w w':=by
 have b:=aA (fun o=>((AB w.heap.size w).alloc (Af _) o));have HE:=aA (fun(z:World) (h:β w z)=>P8 A A' c c' B B' x.r y.r z (aa.fp fun g o hg=>h.cell (p:=⟨g,o,none⟩) (Aj hg hB)) (ab.fp fun g o hg=>h.cell (p:=⟨g,o,none⟩) (Aj hg ad)) ac);rw[<-SX];have e1:=JP x.l y.l;have e2:=JP x.p y.p;unfold Hj;clear aa ab ac;generalize x.l=xl at *;generalize y.l=yl at *;generalize x.p=xp at *;generalize y.p=yp at *;cases q1:jf xl yl
 ·rw[q1]at e1;clear q1 e2
  go_enter func137,ntmps137
  go_wp2;go_ret
  exact⟨rfl,(b.o _).alloc σ _⟩
 ·rw[q1]at e1;clear q1;cases q2:jf x.r y.r
  ·rw[q2]at HE;clear q2 e2
   go_enter func137,ntmps137
   go_wp2_with fail
   refine(HE.o _ ((b.o _).alloc σ _)).mono ?_;rintro _ w2 ⟨rfl,hd⟩;have HD:=aA ((((b.o _).alloc σ _)).trans ((KD hd).mono (by simp;omega)));clear hd;go_wp2;go_ret
   exact⟨rfl,HD.o⟩
  ·rw[q2]at HE;clear q2;generalize jf xp yp=b2 at *
   go_enter func137,ntmps137
   go_wp2_with fail
   refine(HE.o _ ((b.o _).alloc σ _)).mono ?_;rintro _ w2 ⟨rfl,n,rfl⟩;go_wp2;go_ret
   exact⟨aD σ,aB ((b.o _).alloc σ _) _⟩
theorem RO (A A':Option Addr) (ca cb B B':Nat) (xs ys:List Gm.Rl) (w:World) (af:qL w B A xs) (ag:qL w B' A' ys) (hB:B<=w.heap.size) (ah:B'<=w.heap.size) (ar:xs.length<=9223372036854775807) :
  Calls prog 136 #[.slice A xs.length ca,.slice A' ys.length cb,.func (Fn.func 137) #[] #[]] w fun e w'=>e=.returned (.bool (jf xs ys))/\β w w':=by
 have ai:=aA (AB w.heap.size w);by_cases hl:xs.length=ys.length
 ·have HL:=aA hl;rw[<-hl];have am:((xs.length:Int) != (xs.length:Int))=false:=σ
  have HA:=aA af;have aj:=aA ag;clear hl af ag
  go_enter func136,ntmps136
  go_wp2;go_loopw [17] (fun vi wr=>∃(k:Nat),k<=xs.length/\vi=.int .i64 k/\a8 xs ys k/\β w wr) (fun vi _=>xs.length-(intOf vi).toNat)
  case atStart=>exact⟨0,Bb _,rfl,a8.zero _ _,ai.o⟩
  case round =>
   obtain⟨k,hk,rfl,ht,hb⟩:=hrel;have HT:=aA ht;have HB:=aA hb;clear ht;by_cases hlt:k<xs.length
   ·have aa:k<ys.length:=by have:=HL.o;omega
    obtain⟨ga,oa,rfl,au,ha⟩:=HA.o ω;obtain⟨gb,ob,rfl,av,ak⟩:=aj.o ω;obtain⟨a0,⟨Aa,cca,a1,_,_,ra⟩,a2⟩:=ha k hlt;obtain⟨b0,⟨Ab,ccb,b1,_,_,rb⟩,b2⟩:=ak k aa;have ad:xs[k].r.length<=9223372036854775807:=ω
    have HS:=aA (fun(z:World) (h:β w z)=>Ow xs[k] ys[k] Aa Ab cca ccb B B' z (ra.fp fun g o hg=>h.cell (p:=⟨g,o,none⟩) (Aj hg hB)) (rb.fp fun g o hg=>h.cell (p:=⟨g,o,none⟩) (Aj hg ah)) (Ah hB h.size) (Ah ah h.size) ad);have ab:ga<w.heap.size:=ω
    have ac:gb<w.heap.size:=ω
    have aw:=hb.size;have a0:=(hb.cell (p:=⟨ga,oa+k*3,none⟩) ab).trans a0;have a1:=(hb.cell (p:=⟨ga,oa+k*3+1,none⟩) ab).trans a1;have a2:=(hb.cell (p:=⟨ga,oa+k*3+2,none⟩) ab).trans a2;have b0:=(hb.cell (p:=⟨gb,ob+k*3,none⟩) ac).trans b0;have b1:=(hb.cell (p:=⟨gb,ob+k*3+1,none⟩) ac).trans b1;have b2:=(hb.cell (p:=⟨gb,ob+k*3+2,none⟩) ac).trans b2;have ao:ga<wr.heap.size:=ω
    have ap:gb<wr.heap.size:=ω
    have b:=aA (fun(o1 o2:Obj)=>(hb.alloc hb.size o1).alloc (by have:=hb.size;simp;omega) o2);have al:=aA hlt;have aq:=aA aa;unfold Hj at HS;clear ha ak hb HA aj ra rb;generalize qx:xs[k]=x at *;generalize qy:ys[k]=y at *;have QX:=aA qx;have QY:=aA qy;clear qx qy;by_cases d:x=y
    ·have HN:Hid (a8 xs ys (k+1)):=aA (HT.o.next hlt aa (QX.o.trans (d.trans QY.o.symm)));rw[oY d]at HS;clear d ad;go_wp2_with fail
     refine(HS.o _ (b.o _ _)).mono ?_;rintro _ w2 ⟨rfl,f⟩;have ae:=aA ((b.o _ _).trans (f.mono (b.o _ _).size));clear f;go_wp2;go_roundw
     case rel=>exact⟨k+1,al.o,ν,HN.o,ae.o⟩
     case measure=>have:=al.o;simp[intOf];omega
    ·have HN:Hid (jf xs ys=false):=aA (xY hlt aa (fun e=>d (QX.o.symm.trans (e.trans QY.o))));rw[qo d]at HS;clear d ad;go_wp2_with fail
     refine(HS.o _ (b.o _ _)).mono ?_;rintro _ w2 ⟨rfl,f⟩;have ae:=aA ((b.o _ _).trans (f.mono (b.o _ _).size));clear f;go_wp2;go_ret
     exact⟨aD HN.o.symm,ae.o⟩
   ·obtain rfl:k=xs.length:=ω
    have HE:=aA (HT.o.all rfl HL.o);clear hb;go_wp2;go_ret
    exact⟨aD HE.o.symm,HB.o⟩
 ·have HE:=aA (zS hl);have am:((xs.length:Int) != (ys.length:Int))=true:=by simp;omega
  clear hl
  go_enter func136,ntmps136
  go_wp2;go_ret
  exact⟨aD HE.o.symm,ai.o⟩
noncomputable def Gm.same (G H:Gm.Gr):Bool:=jf G.ts H.ts&&jf G.ns H.ns&&jf G.rs H.rs&&jf G.st H.st
theorem Gm.nO (G:Gm.Gr):Gm.same G G=true:=by
 unfold Gm.same;rw[oY rfl,oY rfl,oY rfl,oY rfl];rfl
theorem KG (w:World) (o o':Obj) (n:Nat):(((w.alloc o).alloc o').drewN n).heap[w.heap.size]?=some o:=by
 show((w.alloc o).alloc o').heap[w.heap.size]?=some o
 rw[BD _ _ _ σ];exact AI w o
theorem KF (w:World) (o o':Obj) (n:Nat):(((w.alloc o).alloc o').drewN n).heap[w.heap.size+1]?=some o':=by
 have:=AI (w.alloc o) o'
 simpa[World.drewN] using this
theorem Rq (v u:Value) (G H:Gm.Gr) (B B':Nat) (w:World) (hg:aT w B v G) (hh:aT w B' u H) (fg:Gm.Fit G) (fh:Gm.Fit H) (hB:B<=w.heap.size) (d:B'<=w.heap.size) :
  Calls prog 92 #[v,u] w fun e w'=>e=.returned (.bool (Gm.same G H))/\β w w':=by
 have b:=aA (fun o o'=>((AB w.heap.size w).alloc (Af _) o).alloc σ o');obtain⟨AT,cT,AN,cN,AR,cR,rfl,⟨aa,ab⟩,⟨ac,ad⟩,⟨ae,af⟩,ht,hn,hr⟩:=hg;obtain⟨BT,dT,BN,dN,BR,dR,rfl,_,_,_,gt,gn,gr⟩:=hh;have H1:=aA (fun(x:World) (h:β w x)=>Rw AT BT cT dT B B' G.ts H.ts x (ht.fp fun g o hg=>h.cell (p:=⟨g,o,none⟩) (Aj hg hB)) (gt.fp fun g o hg=>h.cell (p:=⟨g,o,none⟩) (Aj hg d)) (fun x hx=>(fg.t x hx).1) (fun x hx=>(fh.t x hx).1) ω);have H2:=aA (fun(x:World) (h:β w x)=>Rx AN BN cN dN B B' G.ns H.ns x (hn.fp fun g o hg=>h.cell (p:=⟨g,o,none⟩) (Aj hg hB)) (gn.fp fun g o hg=>h.cell (p:=⟨g,o,none⟩) (Aj hg d)) (fun x hx=>fg.n x hx) (fun x hx=>fh.n x hx) ω);have H3:=aA (fun(x:World) (h:β w x)=>RO AR BR cR dR B B' G.rs H.rs x (hr.fp fun g o hg=>h.cell (p:=⟨g,o,none⟩) (Aj hg hB)) (gr.fp fun g o hg=>h.cell (p:=⟨g,o,none⟩) (Aj hg d)) (Ah hB h.size) (Ah d h.size) ω);have e4:=JP G.st H.st;unfold Gm.same;clear ht hn hr gt gn gr aa ab ac ad ae af fg fh hB d;generalize G.st=st at *;generalize H.st=st' at *;cases q1:jf G.ts H.ts
 ·rw[q1]at H1;clear q1 e4 H2 H3
  go_enter func92,ntmps92
  go_wp2_with fail
  refine(H1.o _ (b.o _ _)).mono ?_;rintro _ w2 ⟨rfl,hd⟩;have HD:=aA ((b.o _ _).trans ((KD hd).mono (by simp;omega)));clear hd;go_wp2;go_ret
  exact⟨rfl,HD.o⟩
 ·rw[q1]at H1;clear q1;cases q2:jf G.ns H.ns
  ·rw[q2]at H2;clear q2 e4 H3
   go_enter func92,ntmps92
   go_wp2_with fail
   refine(H1.o _ (b.o _ _)).mono ?_;rintro _ w2 ⟨rfl,n1,rfl⟩;go_wp2_with fail
   refine(H2.o _ (aB (b.o _ _) _)).mono ?_;rintro _ w3 ⟨rfl,n2,rfl⟩;go_wp2;go_ret
   exact⟨rfl,aB (b.o _ _) _⟩
  ·rw[q2]at H2;clear q2;cases q3:jf G.rs H.rs
   focus
    rw[q3]at H3;clear q3 e4
   rotate_left
   focus
    rw[q3]at H3;clear q3;generalize jf st st'=b4 at *
   rotate_left
   all_goals
    go_enter func92,ntmps92
    go_wp2_with fail
    refine(H1.o _ (b.o _ _)).mono ?_;rintro _ w2 ⟨rfl,n1,rfl⟩;go_wp2_with fail
    refine(H2.o _ (aB (b.o _ _) _)).mono ?_;rintro _ w3 ⟨rfl,n2,rfl⟩;go_wp2_with fail
    refine(H3.o _ (aB (b.o _ _) _)).mono ?_;rintro _ w4 ⟨rfl,hb⟩;have HD:=aA ((aB (b.o _ _) _).trans (hb.mono (by simp[World.drewN];omega)))
   focus
    clear hb;go_wp2;go_ret
    exact⟨rfl,HD.o⟩
   focus
    have b0:=(hb.block w.heap.size (by simp[World.drewN];omega)).trans (KG w _ _ _);have b1:=(hb.block (w.heap.size+1) (by simp[World.drewN])).trans (KF w _ _ _);have z0:w.heap.size<w4.heap.size:=(Ad.1 b0).1;have z1:w.heap.size+1<w4.heap.size:=(Ad.1 b1).1;have c0:=AF w4 _ 3 _ _ _ b0;have c1:=AF w4 _ 3 _ _ _ b1;clear hb b0 b1;go_wp2;go_ret
    exact⟨aD σ,HD.o⟩
def lQ (w:World) (a b:Array Value) (wr:World):Prop:=Below (w.heap.size+2) ((w.alloc (.cells a 26)).alloc (.cells b 26)) wr
theorem lQ.start (w:World) (a b:Array Value):lQ w a b ((w.alloc (.cells a 26)).alloc (.cells b 26)):=AB _ _
theorem lQ.size {w wr:World} {a b:Array Value} (h:lQ w a b wr):w.heap.size+2<=wr.heap.size:=by have:=Below.size h;simpa using this
theorem lQ.below {a b:Array Value} (h:lQ w a b wr):β w wr:=(((AB w.heap.size w).alloc (Af _) _).alloc σ _).trans (Below.mono h ω)
theorem lQ.on {wt:World} {a b:Array Value} (h:lQ w a b wr) (k:β wr wt):lQ w a b wt:=Fg h (k.mono h.size)
theorem lQ.drewN {a b:Array Value} (h:lQ w a b wr) (n:Nat):lQ w a b (wr.drewN n):=aB h n
theorem lQ.drew {a b:Array Value} (h:lQ w a b wr):lQ w a b wr.drew:=aB h 1
theorem lQ.alloc {w wr:World} {a b:Array Value} (h:lQ w a b wr) (o:Obj):lQ w a b (wr.alloc o):=Below.alloc h h.size o
theorem lQ.c0 {a b:Array Value} (h:lQ w a b wr) (j:Nat) (u:Value) (hj:a[j]?=some u):wr.cell? ⟨w.heap.size,j,none⟩=some u:=by
 have b0:=(Ef h w.heap.size ω).trans (KG w _ _ 0);exact(AF wr _ j _ _ _ b0).trans hj
theorem lQ.c1 {a b:Array Value} (h:lQ w a b wr) (j:Nat) (u:Value) (hj:b[j]?=some u):wr.cell? ⟨w.heap.size+1,j,none⟩=some u:=by
 have b0:=(Ef h (w.heap.size+1) ω).trans (KF w _ _ 0);exact(AF wr _ j _ _ _ b0).trans hj
theorem QH (v u:Value) (G H:Gm.Gr) (B B':Nat) (w:World) (hg:aT w B v G) (hh:aT w B' u H) (fg:Gm.Fit G) (fh:Gm.Fit H) (hB:B<=w.heap.size) (m:B'<=w.heap.size) :
  Calls prog 15 #[v,u] w fun e w'=>e=.returned (.bool (Gm.same G H))/\β w w':=by
 have N:=aA (fun o o'=>((AB w.heap.size w).alloc (Af _) o).alloc σ o');obtain⟨AT,cT,AN,cN,AR,cR,rfl,⟨aa,ab⟩,⟨ac,ad⟩,⟨ae,af⟩,ht,hn,hr⟩:=hg;obtain⟨BT,dT,BN,dN,BR,dR,rfl,_,_,_,gt,gn,gr⟩:=hh;by_cases h1:G.ts.length=H.ts.length
 case neg =>
  have HE:Hid (Gm.same G H=false):=aA (by unfold Gm.same;rw[zS h1];rfl);have ag:((G.ts.length:Int) != (H.ts.length:Int))=true:=by simp;omega
  rw[HE.o];clear ht hn hr gt gn gr aa ab ac ad ae af fg fh hB m h1
  go_enter func15,ntmps15
  go_wp2;go_ret
  exact⟨rfl,N.o _ _⟩
 by_cases h2:G.ns.length=H.ns.length
 case neg =>
  have HE:Hid (Gm.same G H=false):=aA (by unfold Gm.same;rw[zS h2];simp);have ag:((G.ts.length:Int) != (H.ts.length:Int))=false:=by simp;omega
  have aj:((G.ns.length:Int) != (H.ns.length:Int))=true:=by simp;omega
  rw[HE.o];clear ht hn hr gt gn gr aa ab ac ad ae af fg fh hB m h1 h2
  go_enter func15,ntmps15
  go_wp2;go_ret
  exact⟨rfl,N.o _ _⟩
 by_cases h3:G.rs.length=H.rs.length
 case neg =>
  have HE:Hid (Gm.same G H=false):=aA (by unfold Gm.same;rw[zS h3];simp);have ag:((G.ts.length:Int) != (H.ts.length:Int))=false:=by simp;omega
  have aj:((G.ns.length:Int) != (H.ns.length:Int))=false:=by simp;omega
  have ao:((G.rs.length:Int) != (H.rs.length:Int))=true:=by simp;omega
  rw[HE.o];clear ht hn hr gt gn gr aa ab ac ad ae af fg fh hB m h1 h2 h3
  go_enter func15,ntmps15
  go_wp2;go_ret
  exact⟨rfl,N.o _ _⟩
 by_cases h4:G.st=H.st
 case neg =>
  have HE:Hid (Gm.same G H=false):=aA (by unfold Gm.same;rw[qo h4];simp);have ag:((G.ts.length:Int) != (H.ts.length:Int))=false:=by simp;omega
  have aj:((G.ns.length:Int) != (H.ns.length:Int))=false:=by simp;omega
  have ao:((G.rs.length:Int) != (H.rs.length:Int))=false:=by simp;omega
  have ay:(G.st != H.st)=true:=by simpa using h4
  rw[HE.o];clear ht hn hr gt gn gr aa ab ac ad ae af fg fh hB m h1 h2 h3 h4
  go_enter func15,ntmps15
  go_wp2;go_ret
  exact⟨rfl,N.o _ _⟩
 have ag:((G.ts.length:Int) != (H.ts.length:Int))=false:=by simp;omega
 have aj:((G.ns.length:Int) != (H.ns.length:Int))=false:=by simp;omega
 have ao:((G.rs.length:Int) != (H.rs.length:Int))=false:=by simp;omega
 have ay:(G.st != H.st)=false:=by simpa using h4
 have ak:Hid (Gm.same G H=(jf G.ts H.ts&&jf G.ns H.ns&&jf G.rs H.rs)):=aA (by unfold Gm.same;rw[oY h4];simp);have HT:=aA ht;have HN:=aA hn;have HR:=aA hr;have GT:=aA gt;have GN:=aA gn;have GR:=aA gr;have FT:=aA (fun i (h:i<G.ts.length)=>(fg.t _ (AD h)).1);have FT':=aA (fun i (h:i<H.ts.length)=>(fh.t _ (AD h)).1);have FN:=aA (fun i (h:i<G.ns.length)=>fg.n _ (AD h));have FN':=aA (fun i (h:i<H.ns.length)=>fh.n _ (AD h));have L1:=aA h1;have L2:=aA h2;have L3:=aA h3;have ap:=lQ.start w #[.slice AT G.ts.length cT,.slice AN G.ns.length cN,.slice AR G.rs.length cR,.int .i64 G.st] #[.slice BT H.ts.length dT,.slice BN H.ns.length dN,.slice BR H.rs.length dR,.int .i64 H.st];have az:=aA ap;clear ht hn hr gt gn gr fg fh h1 h2 h3 h4 N ap
 go_enter func15,ntmps15
 go_wp2;go_loopw [5] (fun vi wr=>∃(k:Nat),k<=G.ts.length/\vi=.int .i64 k/\a8 G.ts H.ts k/\lQ w #[.slice AT G.ts.length cT,.slice AN G.ns.length cN,.slice AR G.rs.length cR,.int .i64 G.st] #[.slice BT H.ts.length dT,.slice BN H.ns.length dN,.slice BR H.rs.length dR,.int .i64 H.st] wr) (fun vi _=>G.ts.length-(intOf vi).toNat)
 case atStart=>exact⟨0,Bb _,rfl,a8.zero _ _,az.o⟩
 case round =>
  obtain⟨k,hk,rfl,ha,hb⟩:=hrel;have HA:=aA ha;have HB:=aA hb;have q00:=hb.c0 0 _ rfl;have q10:=hb.c1 0 _ rfl;have q01:=hb.c0 1 _ rfl;have hz:=hb.size;have f:=hb.below;clear ha hb;by_cases hlt:k<G.ts.length
  ·have b:k<H.ts.length:=by have:=L1.o;omega
   clear q01;obtain⟨ga,oa,rfl,D,ca⟩:=HT.o ω;obtain⟨gb,ob,rfl,F,cb⟩:=GT.o ω;have a0:=(f.cell (p:=⟨ga,oa+k*3,none⟩) (Aj D hB)).trans (ca k hlt).1;have a1:=(f.cell (p:=⟨ga,oa+k*3+1,none⟩) (Aj D hB)).trans (ca k hlt).2.1;have a2:=(f.cell (p:=⟨ga,oa+k*3+2,none⟩) (Aj D hB)).trans (ca k hlt).2.2;have b0:=(f.cell (p:=⟨gb,ob+k*3,none⟩) (Aj F m)).trans (cb k b).1;have b1:=(f.cell (p:=⟨gb,ob+k*3+1,none⟩) (Aj F m)).trans (cb k b).2.1;have b2:=(f.cell (p:=⟨gb,ob+k*3+2,none⟩) (Aj F m)).trans (cb k b).2.2;have aq:=MD (FT.o k hlt) (FT'.o k b);have E:=fun w=>ME (K.str G.ts[k].nm) (K.str H.ts[k].nm) G.ts[k].lv H.ts[k].lv G.ts[k].wy H.ts[k].wy w;rw[aq]at E;have A:ga<wr.heap.size:=ω
   have C:gb<wr.heap.size:=ω
   have kk0:(0:Int)<=(k:Int):=ω
   have kk1:(k:Int)<(G.ts.length:Int):=ω
   have kk2:(k:Int)<(H.ts.length:Int):=ω
   clear aq ca cb f HT GT FT FT';by_cases s:G.ts[k]=H.ts[k]
   ·have HX:Hid (a8 G.ts H.ts (k+1)):=aA (HA.o.next hlt b s);rw[oY s]at E;clear s;generalize K.str G.ts[k].nm=x0 at *;generalize K.str H.ts[k].nm=y0 at *;generalize G.ts[k].lv=x1 at *;generalize H.ts[k].lv=y1 at *;generalize G.ts[k].wy=x2 at *;generalize H.ts[k].wy=y2 at *;go_wp2_with fail
    go_quiet (fail)
    go_wp2;go_roundw
    case rel=>exact⟨k+1,hlt,ν,HX.o,HB.o.drewN _⟩
    case measure=>simp[intOf];omega
   ·have HX:Hid (Gm.same G H=false):=aA (by rw[ak.o,xY hlt b s];rfl);rw[qo s]at E;clear s;generalize K.str G.ts[k].nm=x0 at *;generalize K.str H.ts[k].nm=y0 at *;generalize G.ts[k].lv=x1 at *;generalize H.ts[k].lv=y1 at *;generalize G.ts[k].wy=x2 at *;generalize H.ts[k].wy=y2 at *;go_wp2_with fail
    go_quiet (fail)
    go_wp2;go_ret
    exact⟨aD HX.o.symm,(HB.o.drewN _).below⟩
  ·obtain rfl:k=G.ts.length:=ω
   have al:Hid (Gm.same G H=(jf G.ns H.ns&&jf G.rs H.rs)):=aA (by rw[ak.o,HA.o.all rfl L1.o];rfl);clear f ak hk;go_wp2;go_loopw [6] (fun vi wr=>∃(k:Nat),k<=G.ns.length/\vi=.int .i64 k/\a8 G.ns H.ns k/\lQ w #[.slice AT G.ts.length cT,.slice AN G.ns.length cN,.slice AR G.rs.length cR,.int .i64 G.st] #[.slice BT H.ts.length dT,.slice BN H.ns.length dN,.slice BR H.rs.length dR,.int .i64 H.st] wr) (fun vi _=>G.ns.length-(intOf vi).toNat)
   case atStart=>exact⟨0,Bb _,rfl,a8.zero _ _,HB.o⟩
   case round =>
    clear q00 q10 q01 hz HB;obtain⟨k,hk,rfl,ha,hb⟩:=hrel;have ar:=aA ha;have HB:=aA hb;have q01:=hb.c0 1 _ rfl;have q11:=hb.c1 1 _ rfl;have q02:=hb.c0 2 _ rfl;have hz:=hb.size;have f:=hb.below;clear ha hb;by_cases hlt:k<G.ns.length
    ·have b:k<H.ns.length:=by have:=L2.o;omega
     clear q02;obtain⟨ga,oa,rfl,D,ca⟩:=HN.o ω;obtain⟨gb,ob,rfl,F,cb⟩:=GN.o ω;have a0:=(f.cell (p:=⟨ga,oa+k,none⟩) (Aj D hB)).trans (ca k hlt);have b0:=(f.cell (p:=⟨gb,ob+k,none⟩) (Aj F m)).trans (cb k b);have E:=K.Gb (FN.o k hlt) (FN'.o k b);have A:ga<wr.heap.size:=ω
     have C:gb<wr.heap.size:=ω
     have kk0:(0:Int)<=(k:Int):=ω
     have kk1:(k:Int)<(G.ns.length:Int):=ω
     have kk2:(k:Int)<(H.ns.length:Int):=ω
     clear ca cb f HN GN FN FN';by_cases s:G.ns[k]=H.ns[k]
     ·have HX:Hid (a8 G.ns H.ns (k+1)):=aA (ar.o.next hlt b s);rw[AV s]at E;have E':((K.str G.ns[k]).toList != (K.str H.ns[k]).toList)=false:=by rw[bne,E];rfl
      clear s;generalize K.str G.ns[k]=x0 at *;generalize K.str H.ns[k]=y0 at *;go_wp2_with fail
      go_quiet (fail)
      go_wp2;go_roundw
      case rel=>exact⟨k+1,hlt,ν,HX.o,HB.o.drewN _⟩
      case measure=>simp[intOf];omega
     ·have HX:Hid (Gm.same G H=false):=aA (by rw[al.o,xY hlt b s];rfl);rw[AU s]at E;have E':((K.str G.ns[k]).toList != (K.str H.ns[k]).toList)=true:=by rw[bne,E];rfl
      clear s;generalize K.str G.ns[k]=x0 at *;generalize K.str H.ns[k]=y0 at *;go_wp2_with fail
      go_quiet (fail)
      go_wp2;go_ret
      exact⟨aD HX.o.symm,(HB.o.drewN _).below⟩
    ·obtain rfl:k=G.ns.length:=ω
     have ah:Hid (Gm.same G H=jf G.rs H.rs):=aA (by rw[al.o,ar.o.all rfl L2.o];rfl);clear f al hk;go_wp2;go_loopw [7] (fun vi wr=>∃(k:Nat),k<=G.rs.length/\vi=.int .i64 k/\a8 G.rs H.rs k/\lQ w #[.slice AT G.ts.length cT,.slice AN G.ns.length cN,.slice AR G.rs.length cR,.int .i64 G.st] #[.slice BT H.ts.length dT,.slice BN H.ns.length dN,.slice BR H.rs.length dR,.int .i64 H.st] wr) (fun vi _=>G.rs.length-(intOf vi).toNat)
     case atStart=>exact⟨0,Bb _,rfl,a8.zero _ _,HB.o⟩
     case round =>
      clear q01 q11 q02 hz HB;obtain⟨k,hk,rfl,ha,hb⟩:=hrel;have au:=aA ha;have HB:=aA hb;have q02:=hb.c0 2 _ rfl;have q12:=hb.c1 2 _ rfl;have hz:=hb.size;have f:=hb.below;clear ha hb;by_cases hlt:k<G.rs.length
      ·have b:k<H.rs.length:=by have:=L3.o;omega
       obtain⟨ga,oa,rfl,D,ca⟩:=HR.o ω;obtain⟨gb,ob,rfl,F,cb⟩:=GR.o ω;obtain⟨a0,⟨Aa,cca,a1,_,_,ra⟩,a2⟩:=ca k hlt;obtain⟨b0,⟨Ab,ccb,b1,_,_,rb⟩,b2⟩:=cb k b;have a3:G.rs[k].r.length<=9223372036854775807:=ω
       have am:H.rs[k].r.length<=9223372036854775807:=ω
       have a0:=(f.cell (p:=⟨ga,oa+k*3,none⟩) (Aj D hB)).trans a0;have a1:=(f.cell (p:=⟨ga,oa+k*3+1,none⟩) (Aj D hB)).trans a1;have a2:=(f.cell (p:=⟨ga,oa+k*3+2,none⟩) (Aj D hB)).trans a2;have b0:=(f.cell (p:=⟨gb,ob+k*3,none⟩) (Aj F m)).trans b0;have b1:=(f.cell (p:=⟨gb,ob+k*3+1,none⟩) (Aj F m)).trans b1;have b2:=(f.cell (p:=⟨gb,ob+k*3+2,none⟩) (Aj F m)).trans b2;have HS:=aA (fun(z:World) (h:β w z)=>RH Aa Ab cca ccb G.rs[k].r H.rs[k].r z ((ra.fp fun g o hg=>h.cell (p:=⟨g,o,none⟩) (Aj hg hB)).more (Ah hB h.size)) ((rb.fp fun g o hg=>h.cell (p:=⟨g,o,none⟩) (Aj hg m)).more (Ah m h.size)) a3 am);have A:ga<wr.heap.size:=ω
       have C:gb<wr.heap.size:=ω
       have kk0:(0:Int)<=(k:Int):=ω
       have kk1:(k:Int)<(G.rs.length:Int):=ω
       have kk2:(k:Int)<(H.rs.length:Int):=ω
       have x8:=aA (f);have CL:=aA (fun(y:Calm.On wr.heap.size wr) (g j:Nat) (u:Value) (hg:g<wr.heap.size) (h:wr.cell? ⟨g,j,none⟩=some u)=>(y.2.cell (p:=⟨g,j,none⟩) hg).trans h);have R0:=fun y:Calm.On wr.heap.size wr=>CL.o y _ _ _ ω q02;have R1:=fun y:Calm.On wr.heap.size wr=>CL.o y _ _ _ ω q12;have A0:=fun y:Calm.On wr.heap.size wr=>CL.o y _ _ _ A a0;have A1:=fun y:Calm.On wr.heap.size wr=>CL.o y _ _ _ A a1;have A2:=fun y:Calm.On wr.heap.size wr=>CL.o y _ _ _ A a2;have B0:=fun y:Calm.On wr.heap.size wr=>CL.o y _ _ _ C b0;have B1:=fun y:Calm.On wr.heap.size wr=>CL.o y _ _ _ C b1;have B2:=fun y:Calm.On wr.heap.size wr=>CL.o y _ _ _ C b2;have O:=aA (fun o o':Obj=>aB (((AB wr.heap.size wr).alloc (Af _) o).alloc σ o') 1);have av:=aA (fun o:Obj=>(aB (AB wr.heap.size wr) 1).alloc (Af _) o);have aw:=aA (fun o o':Obj=>((aB (AB wr.heap.size wr) 1).alloc (Af _) o).alloc σ o');go_wp2_with fail
       refine Calm.fk (γ wr) (.two [0,1,2,3,4,5,6,7,8,9] 10 (.one [] 11 (.one [] 12 (.one [] 13 (.fin [])))) 11 (.one [] 10 (.one [] 12 (.one [] 13 (.fin []))))) ⟨⟨wr.drew,aB (AB _ _) 1⟩,rfl⟩ ?_;clear q02 q12 a0 a1 a2 b0 b1 b2;simp only[Calm.fS,Calm.fu,Calm.fo,Aq,Ai,Am];repeat (go_big_quiet_step (fail))
       refine Ap ?_;clear R0 R1 A0 A1 A2 B0 B1 B2;refine⟨?_,?_⟩
       all_goals
        intro KK I;rw[Az ε];go_wp2_with fail
        refine I _ _ ⟨⟨_,av.o _⟩,rfl⟩ _ ι ⟨⟨_,av.o _⟩,rfl⟩ ?_;refine Ap ?_;intro KK I;rw[Az ε];go_wp2_with fail
        refine I _ _ ⟨⟨_,aw.o _ _⟩,rfl⟩ _ ι ⟨⟨_,aw.o _ _⟩,rfl⟩ ?_;refine Ap ?_;intro KK I;rw[Az ε];go_wp2_with fail
        refine I _ _ ⟨⟨_,O.o _ _⟩,rfl⟩ _ ι ⟨⟨_,O.o _ _⟩,rfl⟩ ?_;refine Ap ?_;intro KK I;rw[Az ε];go_wp2_with fail
        refine I _ _ ⟨⟨_,O.o _ _⟩,rfl⟩ _ ι ⟨⟨_,O.o _ _⟩,rfl⟩ ?_;refine Ap ?_;have ai:=aA (fun o o':Obj=>(HB.o.on (O.o o o')));have ax:=aA (fun(o o':Obj) (n:Nat)=>(HB.o.on (aB (((AB wr.heap.size wr).alloc (Af _) o).alloc σ o') n)));clear I;generalize qx:G.rs[k]=x at *;generalize qy:H.rs[k]=y at *;have QX:=aA qx;have QY:=aA qy;clear qx qy;by_cases J:x.l=y.l
        case neg =>
         have HX:Hid (Gm.same G H=false):=aA (by rw[ah.o,xY hlt b (fun e=>J (by rw[<-QX.o,<-QY.o];exact congrArg Gm.Rl.l e))]);have e1:(x.l != y.l)=true:=by simpa using J
         clear J;go_wp2_with fail
         go_ret
         exact⟨aD HX.o.symm,(ai.o _ _).below⟩
        have e1:(x.l != y.l)=false:=by simpa using J
        by_cases M:x.p=y.p
        case neg =>
         have HX:Hid (Gm.same G H=false):=aA (by rw[ah.o,xY hlt b (fun e=>M (by rw[<-QX.o,<-QY.o];exact congrArg Gm.Rl.p e))]);have e2:(x.p != y.p)=true:=by simpa using M
         clear J M;go_wp2_with fail
         go_ret
         exact⟨aD HX.o.symm,(ai.o _ _).below⟩
        have e2:(x.p != y.p)=false:=by simpa using M
        by_cases U:x.r=y.r
        ·have HX:Hid (a8 G.rs H.rs (k+1)):=aA (au.o.next hlt b (QX.o.trans (Eq.trans (by cases x;cases y;simp_all) QY.o.symm)));rw[AV U]at HS;clear J M U;go_wp2_with fail
         refine(HS.o _ (ai.o _ _).below).mono ?_;rintro _ w6 ⟨rfl,n6,rfl⟩;go_wp2;go_roundw
         case rel=>exact⟨k+1,hlt,ν,HX.o,ax.o _ _ _⟩
         case measure=>simp[intOf];omega
        ·have HX:Hid (Gm.same G H=false):=aA (by rw[ah.o,xY hlt b (fun e=>U (by rw[<-QX.o,<-QY.o];exact congrArg Gm.Rl.r e))]);rw[AU U]at HS;clear J M U;go_wp2_with fail
         refine(HS.o _ (ai.o _ _).below).mono ?_;rintro _ w6 ⟨rfl,n6,rfl⟩;go_wp2;go_ret
         exact⟨aD HX.o.symm,(ax.o _ _ _).below⟩
      ·obtain rfl:k=G.rs.length:=ω
       have HX:Hid (Gm.same G H=true):=aA (by rw[ah.o,au.o.all rfl L3.o]);go_wp2;go_ret
       exact⟨aD HX.o.symm,HB.o.below⟩
def Gm.lU:Gm.Gr:=⟨[],[],[],0⟩
theorem ND (w:World) (B:Nat):aT w B (.agg #[.slice none 0 0,.slice none 0 0,.slice none 0 0,.int .i64 0]) Gm.lU:=⟨none,0,none,0,none,0,rfl,by simp[Gm.lU],by simp[Gm.lU],by simp[Gm.lU],fun h=>absurd rfl h,fun h=>absurd rfl h,fun h=>absurd rfl h⟩
theorem KH (w:World):(Instr.build 26 #[]).run prog w=.ok (.agg #[.slice none 0 0,.slice none 0 0,.slice none 0 0,.int .i64 0]) w:=EC w 26 _ _ κ
noncomputable def Gm.ni (G:Gm.Gr):Int:=if Gm.right G=true then(if Gm.tr (Gm.Gn true G.rs G.st)=true then 0 else 9) else 1
noncomputable def Gm.nL (G:Gm.Gr):Gm.Gr:=if Gm.ni G=0 then Gm.reduce G else Gm.lU
noncomputable def Gm.yo (G:Gm.Gr):List Int:=if Gm.ni G=0 then Gm.kl G G.rs.length else []
theorem Gm.oM (h:Gm.right G=false):Gm.ni G=1:=by unfold Gm.ni;rw[h];rfl
theorem Gm.lN (h:Gm.right G=true) (k:Gm.tr (Gm.Gn true G.rs G.st)=false):Gm.ni G=9:=by unfold Gm.ni;rw[h,k];rfl
theorem Gm.oO (h:Gm.right G=true) (k:Gm.tr (Gm.Gn true G.rs G.st)=true):Gm.ni G=0:=by unfold Gm.ni;rw[h,k];rfl
def sL (G:Gm.Gr) (w:World) (e:Ending) (w':World):Prop:=∃g A c,e=.returned (.tuple #[g,.slice A (Gm.yo G).length c,.int .i64 (Gm.ni G)])/\aT w' w'.heap.size g (Gm.nL G)/\gg w' w'.heap.size A (Gm.yo G)/\β w w'
theorem sL.no {er:Int} (h:Gm.ni G=er) (h0:er≠0) (hb:β w w'):sL G w (.returned (.tuple #[.agg #[.slice none 0 0,.slice none 0 0,.slice none 0 0,.int .i64 0],.slice none 0 0,.int .i64 er])) w':=by
 have hL:Gm.yo G=[]:=by unfold Gm.yo;rw[AJ (by rw[h];exact h0)]
 have hG:Gm.nL G=Gm.lU:=by unfold Gm.nL;rw[AJ (by rw[h];exact h0)]
 refine⟨_,none,0,by rw[hL,h];rfl,?_,?_,hb⟩
 ·rw[hG];exact ND _ _
 ·rw[hL];exact gg.nil _ _ _
theorem sL.ok {g:Value} {c:Nat} (h:Gm.ni G=0) (hk:ks=Gm.kl G G.rs.length) (hg:aT w' w'.heap.size g (Gm.reduce G)) (hr:gg w' w'.heap.size A ks) (hb:β w w'):sL G w (.returned (.tuple #[g,.slice A ks.length c,.int .i64 0])) w':=by
 have hL:Gm.yo G=ks:=by unfold Gm.yo;rw[Az h,hk]
 have hG:Gm.nL G=Gm.reduce G:=by unfold Gm.nL;rw[Az h]
 exact⟨g,A,c,by rw[hL,h],by rw[hG];exact hg,by rw[hL];exact hr,hb⟩
theorem OX (v:Value) (G:Gm.Gr) (B:Nat) (w:World) (hg:aT w B v G) (hf:Gm.Fit G) (hB:B<=w.heap.size) :
  Calls prog 91 #[v] w (sL G w):=by
 have H1:=aA (fun(x:World) (h:β w x)=>zT v G B x (hg.below h hB) hf (Ah hB h.size));have H2:=aA (fun(x:World) (h:β w x)=>Jk v G B x (hg.below h hB) hf (Ah hB h.size));have H3:=aA (fun(q:Gm.right G=true) (x:World) (h:β w x)=>Sw v G B x (hg.below h hB) hf (Gm.fq.1 q) (Ah hB h.size));have H4:=aA (fun(q:Gm.right G=true) (hp:Gm.Gn true G.rs G.st) (x:World) (h:β w x) (AK:Option Addr) (cK:Nat) (hk:gg x x.heap.size AK (Gm.kl G G.rs.length))=>O0 v G B x.heap.size AK cK x (hg.below h hB) hf (Gm.fq.1 q) hp (Ah hB h.size) hk (Af _));have bm:=fun w=>KH w;obtain⟨AT,cT,AN,cN,AR,cR,rfl,_⟩:=hg;obtain⟨w1,r⟩:∃y,y=(w.alloc (.cells #[.slice AT G.ts.length cT,.slice AN G.ns.length cN,.slice AR G.rs.length cR,.int .i64 G.st] 26)).alloc (.cells #[.slice none 0 0,.slice none 0 0,.slice none 0 0,.int .i64 0] 26):=⟨_,rfl⟩
 have ak:w1.heap.size=w.heap.size+2:=by rw[r];simp
 have ab:Hid (β w w1):=aA (by rw[r];exact((AB _ w).alloc (Af _) _).alloc σ _);have z:Hid (w1.heap[w.heap.size]?=some (.cells #[.slice AT G.ts.length cT,.slice AN G.ns.length cN,.slice AR G.rs.length cR,.int .i64 G.st] 26 (0,0))):=aA (by rw[r,BD _ _ _ σ];exact AI w _);have a6:Hid (w1.heap[w.heap.size+1]?=some (.cells #[.slice none 0 0,.slice none 0 0,.slice none 0 0,.int .i64 0] 26 (0,0))):=aA (by rw[r];have:=AI (w.alloc (.cells #[.slice AT G.ts.length cT,.slice AN G.ns.length cN,.slice AR G.rs.length cR,.int .i64 G.st] 26)) (.cells #[.slice none 0 0,.slice none 0 0,.slice none 0 0,.int .i64 0] 26);simpa using this);have al:=aA ak;have HQ:=aA (fun(y:World) (h:β w1 y)=>(h.block w.heap.size ω).trans z.o);have HZ:=aA (fun(y:World) (h:β w1 y)=>(h.block (w.heap.size+1) ω).trans a6.o);have t:=aA (fun(y:World) (h:β w1 y)=>ab.o.trans (h.mono ω));have c0:=aQ z.o;have c1:=aU z.o;have c2:=bB z.o;have c3:=bL z.o;have bn:w.heap.size<w1.heap.size:=ω
 clear hf ak;cases q:Gm.right G
 ·rw[q]at H1;have HE:=aA (Gm.oM q);clear q H2 H3 H4
  go_enter func91,ntmps91
  go_upto_region 1 with fail
  rw[<-r];clear r;go_wp2_with fail
  refine(H1.o _ ab.o).mono ?_;rintro _ w2 ⟨rfl,i⟩;have g0:=aQ (HZ.o w2 i);have g1:=aU (HZ.o w2 i);have g2:=bB (HZ.o w2 i);have g3:=bL (HZ.o w2 i);have e0:=AM w2 _ 0 _ _ (HZ.o w2 i);have e1:=AM w2 _ 1 _ _ (HZ.o w2 i);have e2:=AM w2 _ 2 _ _ (HZ.o w2 i);have e3:=AM w2 _ 3 _ _ (HZ.o w2 i);have lz:=(Ad.1 (HZ.o w2 i)).1;have A:=aA (fun u1 u2 u3 u4=>((((t.o w2 i).setCell (p:=⟨w.heap.size+1,0,none⟩) (by simp only;omega) u1).setCell (p:=⟨w.heap.size+1,1,none⟩) (by simp only;omega) u2).setCell (p:=⟨w.heap.size+1,2,none⟩) (by simp only;omega) u3).setCell (p:=⟨w.heap.size+1,3,none⟩) (by simp only;omega) u4);clear c0 c1 c2 c3 i H1;go_wp2;refine B3 (v:=.tuple #[.agg #[.slice none 0 0,.slice none 0 0,.slice none 0 0,.int .i64 0],.slice none 0 0,.int .i64 1]) (by simp[results,results91,go_sem,g0,g1,g2,g3]) rfl ?_;exact sL.no HE.o δ (A.o _ _ _ _)
 ·have am:=aA q;have ao:=aA (Gm.fq.1 q);have H2:=aA (fun x h=>(show Calls _ _ _ _ (wI _ _) from(H2.o x h).mono fun e w' k=>k.1 q));have H3:=aA (H3.o q);have H4:=aA (H4.o q);rw[q]at H1;clear q;obtain⟨T,hT⟩:∃x,x=Gm.gn true G.rs G.ns.length:=⟨_,rfl⟩
  have ap:Hid (T.length=G.ns.length):=aA (by rw[hT,Gm.iJ]);rw[<-hT]at H2;have a9:=ao.o.s0;have ac:=ao.o.s1;obtain⟨m,hm⟩:∃m:Nat,G.st=(m:Int):=⟨G.st.toNat,ω⟩
  obtain⟨tb,ad⟩:∃b,b=T.getD m false:=⟨_,rfl⟩
  have ae:Hid (tb=Gm.tr (Gm.Gn true G.rs G.st)):=aA (by rw[ad,hT,Gm.mH _ _ _ _ ω,hm]);have ba:=aA ad;have HM:=aA hm;have bb:m<G.ns.length:=ω
  have bo:(m:Int)<(G.ns.length:Int):=ω
  clear hT a9 ac hm ad
  go_enter func91,ntmps91
  go_upto_region 1 with fail
  rw[<-r];clear r;go_upto_region 3 with fail
  refine(H1.o _ ab.o).mono ?_;rintro _ w2 ⟨rfl,i⟩;have j:=aA i;clear i c0 c1 c2 c3 H1;go_upto_region 3 with fail
  go_cut [16] (fun v16 wx=>v16=.bool (!tb)/\β w1 wx)
  case first =>
   have q0:=fun y:Calm.On w2.heap.size w2=>aQ (HQ.o y.1 (j.o.trans (y.2.mono j.o.size)));have q1:=fun y:Calm.On w2.heap.size w2=>aU (HQ.o y.1 (j.o.trans (y.2.mono j.o.size)));have q2:=fun y:Calm.On w2.heap.size w2=>bB (HQ.o y.1 (j.o.trans (y.2.mono j.o.size)));have q3:=fun y:Calm.On w2.heap.size w2=>bL (HQ.o y.1 (j.o.trans (y.2.mono j.o.size)));rw[HM.o]at q3;rw[HM.o]at H2;have C:Hid (β w2 w2.drew):=aA (aB (AB _ _) 1);refine CalmN.fk (γ w2) (.one [0,2,3] 1 (.fin [4,5,6])) ⟨⟨w2.drew,C.o⟩,rfl⟩ ?_;simp only[CalmN.fS,CalmN.fu,CalmN.fo,Aq,Ai,Am];repeat (go_big_quiet_step (fail))
   refine Ap ?_;clear q0 q1 q2 q3;obtain⟨wd,aq⟩:∃y,y=w2.drew:=⟨_,rfl⟩
   rw[<-aq]at C ⊢;clear aq;intro KK ar;rw[Az ε];go_wp2_with fail
   refine(H2.o wd (t.o _ (j.o.trans (C.o.mono j.o.size)))).mono ?_;rintro _ w3 ⟨ga,rfl,bc,af,au⟩;rw[ap.o];have l:β w2 w3:=C.o.trans (au.mono C.o.size);have bd:=aA (j.o.trans (l.mono j.o.size));go_wp2_with fail
   refine ar _ _ ⟨⟨w3,l⟩,rfl⟩ (γ w3) (fun x h=>by obtain⟨y,rfl⟩:=h;exact⟨⟨y.1,l.trans (y.2.mono l.size)⟩,rfl⟩) ⟨⟨w3,AB _ _⟩,rfl⟩ ?_;have bk:=fun y:Calm.On w3.heap.size w3=>(y.2.cell (p:=⟨ga,m,none⟩) af.lt).trans (af.cell m (by rw[ap.o];exact bb));rw[<-ba.o]at bk;clear au bc af l ar;repeat (go_big_quiet_step (fail))
   refine Ap ?_;go_wp2_with fail
   go_meet
   case rel=>exact⟨rfl,bd.o⟩
  case rest =>
   obtain⟨rfl,f⟩:=hcut;rw[ae.o];cases hp:Gm.tr (Gm.Gn true G.rs G.st)
   ·have HE:=aA (Gm.lN am.o hp);have g0:=aQ (HZ.o wc f);have g1:=aU (HZ.o wc f);have g2:=bB (HZ.o wc f);have g3:=bL (HZ.o wc f);have e0:=AM wc _ 0 _ _ (HZ.o wc f);have e1:=AM wc _ 1 _ _ (HZ.o wc f);have e2:=AM wc _ 2 _ _ (HZ.o wc f);have e3:=AM wc _ 3 _ _ (HZ.o wc f);have lz:=(Ad.1 (HZ.o wc f)).1;have A:=aA (fun u1 u2 u3 u4=>((((t.o wc f).setCell (p:=⟨w.heap.size+1,0,none⟩) (by simp only;omega) u1).setCell (p:=⟨w.heap.size+1,1,none⟩) (by simp only;omega) u2).setCell (p:=⟨w.heap.size+1,2,none⟩) (by simp only;omega) u3).setCell (p:=⟨w.heap.size+1,3,none⟩) (by simp only;omega) u4);clear hp ae H2 H3 H4 f;go_wp2;refine B3 (v:=.tuple #[.agg #[.slice none 0 0,.slice none 0 0,.slice none 0 0,.int .i64 0],.slice none 0 0,.int .i64 9]) (by simp[results,results91,go_sem,g0,g1,g2,g3]) rfl ?_;exact sL.no HE.o δ (A.o _ _ _ _)
   ·have HE:=aA (Gm.oO am.o hp);have H4:=aA (H4.o (Gm.fV.1 hp));have aa:=aA f;have c0:=aQ (HQ.o wc f);have c1:=aU (HQ.o wc f);have c2:=bB (HQ.o wc f);have c3:=bL (HQ.o wc f);have lc0:=Bl c0;obtain⟨ks,ag⟩:∃ks,ks=Gm.kl G G.rs.length:=⟨_,rfl⟩
    rw[<-ag]at H3 H4;have bf:=aA ag;clear hp ae H2 f ag;go_wp2_with fail
    refine(H3.o _ (t.o _ aa.o)).mono ?_;rintro _ w4 ⟨u,rfl,ah,av⟩;have s:=aA (aa.o.trans (av.mono aa.o.size));obtain⟨A4,c4,rfl,_,_,aw⟩:=ah.form;have ax:=aA aw;have ay:=aA ah;have bg:=aA (Ah aa.o.size (Af wc.heap.size));clear c0 c1 c2 c3 lc0 av aw ah;have c0:=aQ (HQ.o w4 s.o);have c1:=aU (HQ.o w4 s.o);have c2:=bB (HQ.o w4 s.o);have c3:=bL (HQ.o w4 s.o);have lc0:=Bl c0;go_wp2_with fail
    refine(H4.o w4 (t.o _ s.o) A4 c4 ax.o).mono ?_;rintro _ w5 ⟨g,rfl,az,ai⟩;have n:=aA (s.o.trans (ai.mono s.o.size));have a0:=aA (ay.o.below ai (Af _));have a1:=aA az;obtain⟨u0,u1,u2,rfl,a2,a3,a4⟩:=az;obtain⟨A0,d0,rfl,_,_⟩:=aO a2;obtain⟨A1,d1,rfl,_,_⟩:=aO a3;obtain⟨A2,d2,rfl,_,_⟩:=yF a4;have bh:=aA (s.o.size);clear a2 a3 a4;clear c0 c1 c2 c3 lc0 ai ax ay;have g0:=aQ (HZ.o w5 n.o);have g1:=aU (HZ.o w5 n.o);have g2:=bB (HZ.o w5 n.o);have g3:=bL (HZ.o w5 n.o);have e0:=AM w5 _ 0 _ _ (HZ.o w5 n.o);have e1:=AM w5 _ 1 _ _ (HZ.o w5 n.o);have e2:=AM w5 _ 2 _ _ (HZ.o w5 n.o);have e3:=AM w5 _ 3 _ _ (HZ.o w5 n.o);have lz:=(Ad.1 (HZ.o w5 n.o)).1;have A:=aA (fun u1 u2 u3 u4=>((((t.o w5 n.o).setCell (p:=⟨w.heap.size+1,0,none⟩) (by simp only;omega) u1).setCell (p:=⟨w.heap.size+1,1,none⟩) (by simp only;omega) u2).setCell (p:=⟨w.heap.size+1,2,none⟩) (by simp only;omega) u3).setCell (p:=⟨w.heap.size+1,3,none⟩) (by simp only;omega) u4);have aj:=aF (aF (aF (aF (AO w5 (some (w.heap.size+1))) 0 (.slice A0 (Gm.reduce G).ts.length d0)) 1 (.slice A1 (Gm.reduce G).ns.length d1)) 2 (.slice A2 (Gm.reduce G).rs.length d2)) 3 (.int .i64 (Gm.reduce G).st);have bi:=aA (a1.o.grown aj (fun g e=>by injection e with e;have:=al.o;have:=bh.o;omega));have bj:=aA (a0.o.jv aj (by have:=al.o;have:=bg.o;omega));generalize a5:Gm.reduce G=RG at *;have bl:=aA a5;clear aj a1 a0 a5;go_wp2;refine B3 (v:=.tuple #[.agg #[.slice A0 RG.ts.length d0,.slice A1 RG.ns.length d1,.slice A2 RG.rs.length d2,.int .i64 RG.st],.slice A4 ks.length c4,.int .i64 0]) (by simp[results,results91,go_sem,g0,g1,g2,g3]) rfl ?_;exact sL.ok HE.o bf.o (by rw[bl.o];exact bi.o.rd) bj.o.xG (A.o _ _ _ _)
theorem Gm.sE (hf:Gm.Fit G):Gm.Fit (Gm.nL G):=by
 unfold Gm.nL;split
 case isFalse=>exact⟨by simp[Gm.lU],by simp[Gm.lU],by simp[Gm.lU],by unfold Gm.In;simp[Gm.lU]⟩
 case isTrue h =>
  have hr:Gm.right G=true:=by
   cases q:Gm.right G
   ·rw[Gm.oM q]at h;cases h
   ·rfl
  have hp:Gm.Gn true G.rs G.st:=by
   cases q:Gm.tr (Gm.Gn true G.rs G.st)
   ·rw[Gm.lN hr q]at h;cases h
   ·exact Gm.fV.1 q
  have aa:=Gm.fq.1 hr;have ad:=Gm.oD aa;have ae:=(Gm.fF G).1 aa.n;have ab:∀ {l:Int},l∈Gm.ft G->Gm.In (Gm.pos (Gm.ft G) l):=fun hl=>by have:=Gm.kJ hl;unfold Gm.In;omega
  refine⟨hf.t,fun s hs=>?_,fun y hy=>?_,ab (Gm.yw hp)⟩
  ·obtain⟨l,hl,rfl⟩:=Bo.1 hs
   have:=Gm.sB aa hl
   rw[Aw,AH ω,Bu];exact hf.n _ (AD _)
  ·obtain⟨x,hx,rfl⟩:=Bo.1 hy;have ac:=hf.r x (Gm.iG.1 hx).1;refine⟨ab (Gm.qj hx),ac.2.1,fun z hz=>?_⟩;obtain⟨u,hu,rfl⟩:=Bo.1 hz;unfold Gm.lY;by_cases h0:u<0
   ·rw[Az h0]
    have:=Gm.kJ (Gm.oW hx hu h0)
    unfold Gm.In;omega
   ·rw[AJ h0];exact ac.2.2 u hu
noncomputable def Gm.ja (G:Gm.Gr):Bool:=decide (Gm.ni G=0)&&Gm.same G (Gm.nL G)
theorem Gm.uY (G:Gm.Gr):Gm.ni G=0\/Gm.ni G=1\/Gm.ni G=9:=by
 unfold Gm.ni;split
 ·split
  ·exact .inl rfl
  ·exact .inr (.inr rfl)
 ·exact .inr (.inl rfl)
theorem SJ (v:Value) (G:Gm.Gr) (B:Nat) (w:World) (hg:aT w B v G) (hf:Gm.Fit G) (hB:B<=w.heap.size) :
  Calls prog 55 #[v] w fun e w'=>e=.returned (.bool (Gm.ja G))/\β w w':=by
 have H1:=aA (fun(x:World) (h:β w x)=>OX v G B x (hg.below h hB) hf (Ah hB h.size));have H2:=aA (fun(x:World) (h:β w x) (u:Value) (B':Nat) (hu:aT x B' u (Gm.nL G)) (ag:B'<=x.heap.size)=>Rq v u G (Gm.nL G) B B' x (hg.below h hB) hu hf (Gm.sE hf) (Ah hB h.size) ag);have ah:=Gm.uY G;have HI:Hid (Gm.ja G=(decide (Gm.ni G=0)&&Gm.same G (Gm.nL G))):=aA rfl;obtain⟨AT,cT,AN,cN,AR,cR,rfl,_⟩:=hg;have aa:=aA (One.start w #[.slice AT G.ts.length cT,.slice AN G.ns.length cN,.slice AR G.rs.length cR,.int .i64 G.st]);unfold sL at H1;generalize Gm.yo G=L at *;generalize Gm.ni G=er at *;generalize Gm.nL G=RG at *;clear hf;by_cases he:er=0
 ·have HX:Hid (Gm.ja G=Gm.same G RG):=aA (by rw[HI.o,AV he];rfl);subst he;clear ah HI
  go_enter func55,ntmps55
  go_wp2_with fail
  refine(H1.o _ aa.o.below).mono ?_;rintro _ w2 ⟨g,A,c,rfl,ab,ad,d⟩;have ac:=aA (aa.o.on d);have ai:=aA ab;obtain⟨A0,d0,A1,d1,A2,d2,rfl,_⟩:=ab;have ae:=aA (One.start w2 #[.slice A0 RG.ts.length d0,.slice A1 RG.ns.length d1,.slice A2 RG.rs.length d2,.int .i64 RG.st]);have b:=aA (ac.o.on ae.o.below);have x0:=b.o.c 0 _ rfl;have x1:=b.o.c 1 _ rfl;have x2:=b.o.c 2 _ rfl;have x3:=b.o.c 3 _ rfl;have ak:w.heap.size<w2.heap.size:=ac.o.size;clear ad d;go_wp2_with fail
  refine(H2.o _ b.o.below _ w2.heap.size (ai.o.below ae.o.below (Af _)) ae.o.below.size).mono ?_;rintro _ w4 ⟨rfl,af⟩;have aj:=aA (b.o.on af);clear af x0 x1 x2 x3;go_wp2;go_ret
  exact⟨by rw[HX.o];rfl,aj.o.below⟩
 ·have HX:Hid (Gm.ja G=false):=aA (by rw[HI.o,AU he];rfl);have al:(er==0)=false:=by simpa using he
  clear HI H2
  go_enter func55,ntmps55
  go_wp2_with fail
  refine(H1.o _ aa.o.below).mono ?_;rintro _ w2 ⟨g,A,c,rfl,ab,ad,d⟩;have ac:=aA (aa.o.on d);obtain⟨A0,d0,A1,d1,A2,d2,rfl,_⟩:=ab;clear ad d;go_wp2;go_ret
  exact⟨by rw[HX.o];rfl,(ac.o.alloc _).below⟩
namespace Au
def tc (G:Gm.Gr) (r:Int):Bool:=decide (-1<=r)&&decide (r<G.rs.length)
theorem lB {r:Int}:tc G r=true ↔ -1<=r/\r<G.rs.length:=by unfold tc;simp
theorem uq {x:It} (h:tc G x.1=false):ir G x=false:=by
 unfold tc at h;unfold ir;rw[h];rfl
theorem zc {x:It} (h:tc G x.1=true):ir G x=(decide (0<=x.2)&&decide (x.2<=(sy G x.1).length)):=by
 unfold tc at h;unfold ir;rw[h,Cw]
theorem vB (h:k<G.rs.length):sy G (k:Int)=(G.rs[k]).r:=by
 unfold sy;rw[AJ ω,Aw,show((k:Int)).toNat=k by omega,AH h,Bu]
def tN (G:Gm.Gr) (x:It):Option Int:=if ir G x=true then nx G x else none
theorem uJ {x:It} (h:ir G x=true):tN G x=nx G x:=by unfold tN;rw[Az h]
theorem pX {x:It} (h0:0<=x.2) (h1:x.2<(sy G x.1).length):nx G x=some ((sy G x.1).getD x.2.toNat 0):=by
 unfold nx;rw[Aw,AH (by omega:x.2.toNat<(sy G x.1).length)];rfl
theorem zm {x:It} (h:tc G x.1=false):tN G x=none:=by unfold tN;rw[uq h];rfl
theorem xy {x:It} (h:x.2<0\/(sy G x.1).length<=x.2):tN G x=none:=by
 unfold tN;split
 ·rename_i hi
  have:=gj.1 hi
  unfold nx;exact Ch ω
 ·rfl
theorem zl {x:It} (hr:tc G x.1=true) (h0:0<=x.2) (h1:x.2<(sy G x.1).length):tN G x=some ((sy G x.1).getD x.2.toNat 0):=by
 unfold tN;rw[Az (gj.2 ⟨lB.1 hr,h0,ω⟩),pX h0 h1]
end Au
theorem JH (z:Int) (hz:-9223372036854775808<=z) (aa:z<=9223372036854775807) (w:World) :
  Calls prog 142 #[.int .i64 z] w fun e w'=>e=.returned (.int .i64 (-1-z))/\w'=w:=by
 have hs:IntKind.i64.wrap (-1-z) = -1-z:=BV _ ω;clear hz aa
 go_enter func142,ntmps142
 go_wp2;go_ret
 exact⟨rfl,rfl⟩
theorem KO (z:Int) (w:World) :
  Calls prog 140 #[.int .i64 z] w fun e w'=>e=.returned (.bool (decide (z<0)))/\w'=w:=by
 go_enter func140,ntmps140
 go_wp2;go_ret
 exact⟨rfl,rfl⟩
def Hr (L:List Int) (w:World) (e:Ending) (w':World):Prop:=∃A c,e=.returned (.tuple #[.slice A L.length c,.bool true])/\L.length<=c/\c<=9223372036854775807/\gg w' w'.heap.size A L/\β w w'
theorem KM (v:Value) (G:Gm.Gr) (B:Nat) (r:Int) (w:World) (hg:aT w B v G) (hf:Gm.Fit G) (hB:B<=w.heap.size) (hr:Au.tc G r=true) :
  Calls prog 145 #[v,.int .i64 r] w (Hr (Au.sy G r) w):=by
 have hr:=Au.lB.1 hr;have aa:=hf.s;unfold Gm.In at aa;have HX:=aA (fun w=>JH G.st aa.1 aa.2 w);obtain⟨AT,cT,AN,cN,AR,cR,rfl,⟨ah,ai⟩,⟨aj,ak⟩,⟨al,am⟩,_,_,hR⟩:=hg;have b:=aA (aZ.start 26 w #[.slice AT G.ts.length cT,.slice AN G.ns.length cN,.slice AR G.rs.length cR,.int .i64 G.st]);have x2:=b.o.c 2 _ rfl;have x3:=b.o.c 3 _ rfl;clear hf aa;unfold Hr;by_cases h1:r = -1
 ·subst h1;have e:Au.sy G (-1)=[-1-G.st]:=rfl;have HL:=aA (FO (w.alloc (.cells #[.slice AT G.ts.length cT,.slice AN G.ns.length cN,.slice AR G.rs.length cR,.int .i64 G.st] 26)) [-1-G.st]);rw[e];clear hr hR e
  go_enter func145,ntmps145
  go_wp2_with fail
  refine(HX.o _).mono ?_;rintro _ _ ⟨rfl,rfl⟩;go_wp2
  go_ret2
  exact⟨_,_,rfl,σ,σ,by simpa[vJ] using HL.o.1,b.o.below.trans (HL.o.2.mono σ)⟩
 ·obtain⟨k,rfl⟩:∃k:Nat,r=(k:Int):=⟨r.toNat,ω⟩
  have ab:k<G.rs.length:=ω
  obtain⟨g,o,rfl,ad,hc⟩:=hR ω;obtain⟨_,⟨A',c',k1,ae,af,ac⟩,_⟩:=hc k ab;have k1:=(b.o.below.cell (p:=⟨g,o+k*3+1,none⟩) (Aj ad hB)).trans k1;have ag:=aA ((ac.below b.o.below hB).more (B':=w.heap.size+1) ω);have h2:((k:Int) == -1)=false:=by rw[Bc];omega
  have h3:(k:Int)<(G.rs.length:Int):=ω
  rw[Au.vB ab];clear hc ac hR hr h1 HX;generalize (G.rs[k]).r=L at *
  go_enter func145,ntmps145
  go_wp2
  go_ret2
  exact⟨_,_,rfl,ae,af,by simpa using ag.o,b.o.below⟩
theorem LO (v:Value) (G:Gm.Gr) (B:Nat) (r:Int) (w:World) (hg:aT w B v G) (hr:Au.tc G r=false) :
  Calls prog 145 #[v,.int .i64 r] w fun e w'=>e=.returned (.tuple #[.slice none 0 0,.bool false])/\β w w':=by
 have hr:¬(-1<=r/\r<G.rs.length):=fun h=>by rw[Au.lB.2 h]at hr;cases hr
 obtain⟨AT,cT,AN,cN,AR,cR,rfl,_,_,⟨ab,ac⟩,_,_,_⟩:=hg;have aa:=aA (aZ.start 26 w #[.slice AT G.ts.length cT,.slice AN G.ns.length cN,.slice AR G.rs.length cR,.int .i64 G.st]);have x2:=aa.o.c 2 _ rfl;have h1:(r == -1)=false:=by rw[Bc];omega
 by_cases h0:0<=r
 ·have h2:(G.rs.length:Int)<=r:=ω
  clear hr
  go_enter func145,ntmps145
  go_wp2
  go_ret2
  exact⟨rfl,aa.o.below⟩
 ·clear hr
  go_enter func145,ntmps145
  go_wp2
  go_ret2
  exact⟨rfl,aa.o.below⟩
abbrev lV (x:Au.It):Value:=.agg #[.int .i64 x.1,.int .i64 x.2]
theorem Rj (v:Value) (G:Gm.Gr) (B:Nat) (x:Au.It) (w:World) (hg:aT w B v G) (hf:Gm.Fit G) (hB:B<=w.heap.size) :
  Calls prog 139 #[v,lV x] w fun e w'=>e=.returned (.bool (Au.ir G x))/\β w w':=by
 have HG:=aA hg;obtain⟨AT,cT,AN,cN,AR,cR,rfl,_⟩:=hg;have b:=aA (bA.start 26 61 w #[.slice AT G.ts.length cT,.slice AN G.ns.length cN,.slice AR G.rs.length cR,.int .i64 G.st] #[.int .i64 x.1,.int .i64 x.2]);have g0:=b.o.c1 0 _ rfl;have g1:=b.o.c1 1 _ rfl;have g2:=b.o.c1 2 _ rfl;have g3:=b.o.c1 3 _ rfl;have i0:=b.o.c2 0 _ rfl;have i1:=b.o.c2 1 _ rfl;cases hr:Au.tc G x.1
 ·have HR:=aA (fun y (h:β w y)=>LO _ G B x.1 y (HG.o.below h hB) hr);rw[Au.uq hr];clear hr hf
  go_enter func139,ntmps139
  go_wp2_with fail
  refine(HR.o _ b.o.below).mono ?_;rintro _ w2 ⟨rfl,hb⟩;have HB:=aA (b.o.on hb);clear hb g0 g1 g2 g3 i0 i1;go_wp2;go_ret
  exact⟨rfl,HB.o.below⟩
 ·have HR:=aA (fun y (h:β w y)=>KM _ G B x.1 y (HG.o.below h hB) hf (Ah hB h.size) hr);unfold Hr at HR;have HI:=aA (Au.zc hr);clear hr hf;generalize Au.sy G x.1=L at *
  go_enter func139,ntmps139
  go_wp2_with fail
  refine(HR.o _ b.o.below).mono ?_;rintro _ w2 ⟨A,c,rfl,hl,hm,aa,hb⟩;have HB:=aA (b.o.on hb);have j1:=HB.o.c2 1 _ rfl;clear hb aa g0 g1 g2 g3 i0 i1;by_cases h0:0<=x.2
  ·by_cases h1:x.2<=(L.length:Int)
   ·have HE:=aA (show true=Au.ir G x by rw[HI.o,AV h0,AV h1];rfl);go_wp2;go_ret
    exact⟨aD HE.o,HB.o.below⟩
   ·have HE:=aA (show false=Au.ir G x by rw[HI.o,AV h0,AU h1];rfl);have HF:=aA (AU h1);go_wp2;go_ret
    exact⟨aD (HF.o.trans HE.o),HB.o.below⟩
  ·have HE:=aA (show false=Au.ir G x by rw[HI.o,AU h0];rfl);go_wp2;go_ret
   exact⟨aD HE.o,HB.o.below⟩
theorem KN (v:Value) (G:Gm.Gr) (B:Nat) (x:Au.It) (w:World) (hg:aT w B v G) (hf:Gm.Fit G) (hB:B<=w.heap.size) :
  Calls prog 95 #[v,lV x] w fun e w'=>e=.returned (.tuple #[.int .i64 ((Au.tN G x).getD 0),.bool (Au.tN G x).isSome])/\β w w':=by
 have HG:=aA hg;obtain⟨AT,cT,AN,cN,AR,cR,rfl,_⟩:=hg;have b:=aA (bA.start 26 61 w #[.slice AT G.ts.length cT,.slice AN G.ns.length cN,.slice AR G.rs.length cR,.int .i64 G.st] #[.int .i64 x.1,.int .i64 x.2]);have g0:=b.o.c1 0 _ rfl;have g1:=b.o.c1 1 _ rfl;have g2:=b.o.c1 2 _ rfl;have g3:=b.o.c1 3 _ rfl;have i0:=b.o.c2 0 _ rfl;have i1:=b.o.c2 1 _ rfl;cases hr:Au.tc G x.1
 ·have HR:=aA (fun y (h:β w y)=>LO _ G B x.1 y (HG.o.below h hB) hr);rw[Au.zm hr];clear hr hf
  go_enter func95,ntmps95
  go_wp2_with fail
  refine(HR.o _ b.o.below).mono ?_;rintro _ w2 ⟨rfl,hb⟩;have HB:=aA (b.o.on hb);have j1:=HB.o.c2 1 _ rfl;clear hb g0 g1 g2 g3 i0 i1;by_cases h0:x.2<0
  ·go_wp2
   go_ret2
   exact⟨rfl,HB.o.below⟩
  ·have h1:(0:Int)<=x.2:=ω
   go_wp2
   go_ret2
   exact⟨rfl,HB.o.below⟩
 ·have HR:=aA (fun y (h:β w y)=>KM _ G B x.1 y (HG.o.below h hB) hf (Ah hB h.size) hr);unfold Hr at HR;have HO:=aA (Au.xy (G:=G) (x:=x));have HI:=aA (Au.zl hr);clear hr hf;generalize Au.tN G x=q at *;generalize Au.sy G x.1=L at *
  go_enter func95,ntmps95
  go_wp2_with fail
  refine(HR.o _ b.o.below).mono ?_;rintro _ w2 ⟨A,c,rfl,hl,hm,aa,hb⟩;have HB:=aA (b.o.on hb);have j1:=HB.o.c2 1 _ rfl;clear hb g0 g1 g2 g3 i0 i1;by_cases h0:x.2<0
  ·obtain rfl:=HO.o (.inl h0);clear HO HI aa;go_wp2
   go_ret2
   exact⟨rfl,HB.o.below⟩
  ·by_cases h1:(L.length:Int)<=x.2
   ·obtain rfl:=HO.o (.inr h1);clear HO HI aa;go_wp2
    go_ret2
    exact⟨rfl,HB.o.below⟩
   ·have HQ:=HI.o ω ω;obtain⟨g,o,rfl,ac,hc⟩:=aa ω;obtain⟨k,hk⟩:∃k:Nat,x.2=(k:Int):=⟨x.2.toNat,ω⟩
    rw[hk]at j1 h0 h1 HQ;have ab:k<L.length:=ω
    have k0:=hc k ab;rw[show((k:Int)).toNat=k by omega]at HQ;generalize L.getD k 0=z at *;have HQ:=aA HQ;clear HO HI hc hk h0 h1;have h0:((k:Int)<0)=False:=eq_false ω;go_wp2
    go_ret2
    exact⟨by rw[HQ.o];rfl,HB.o.below⟩
namespace Au
def sX (n:Nat) (q:Int):Bool:=decide (0<=q)&&decide (q<(n:Int))
theorem mg {q:Int}:sX n q=true↔0<=q/\q<(n:Int):=by unfold sX;simp
def Tv (l:List (Int×Int)) (s:Int) (i:Nat):Prop:=(∃h:i<l.length,(l[i]).1=s)/\∀j (h:j<l.length),j<i->(l[j]).1≠s
theorem sq:∀ {l:List (Int×Int)} {s:Int} {i:Nat} (_:Tv l s i) (hi:i<l.length),lead l s=(l[i]).2
 | [],_,_,_,hi=>by simp at hi
 | x::l,s,0,h,hi=>by
  obtain⟨⟨_,h1⟩,_⟩:=h;have h1:x.1=s:=h1;unfold lead;rw[List.find?_cons_of_pos (by simpa using h1)];rfl
 | x::l,s,i+1,h,hi=>by
  obtain⟨⟨h0,h1⟩,h2⟩:=h;have hx:x.1≠s:=h2 0 σ ω
  have ih:=sq (l:=l) (s:=s) (i:=i) ⟨⟨by simpa using h0,by simpa using h1⟩,fun j hj aa=>by
   have:=h2 (j+1) (by simpa using hj) ω
   simpa using this⟩ (by simpa using hi)
  unfold lead at ih ⊢;rw[List.find?_cons_of_neg (by simpa using hx),ih];rfl
theorem xt {l:List (Int×Int)} (h:∀x∈l,x.1≠s):lead l s = -1:=by
 unfold lead;rw[List.find?_eq_none.2 (fun x hx=>by simpa using h x hx)];rfl
theorem xS (E:List (List (Int×Int))) (q:Int):lZ E q []=if sX E.length q=true then some q else none:=by
 rw[lZ];by_cases h:sX E.length q=true
 ·rw[Az h,Az (mg.1 h)]
 ·rw[AJ h,AJ (fun k=>h (mg.2 k))]
end Au
def Au.iE (ss:List nY) (q:Int) (sy:List Int):Option Int:=Au.lZ (ss.map (·.2)) q sy
theorem Au.nf (ss:List nY) (q:Int):Au.iE ss q []=if Au.sX ss.length q=true then some q else none:=by
 unfold Au.iE;rw[Au.xS,Bh]
theorem Au.tu (ss:List nY) (q:Int) (a:List Int) (s:Int):Au.iE ss q (a++[s])=(Au.iE ss q a).bind fun q1=>Au.iE ss (Au.lead ((ss.map (·.2)).getD q1.toNat []) s) []:=Au.qm
namespace Lk
open Au Gm Go.Mw
theorem Mx {α β:Type}:∀ {K:List α} {E:List β},E.length=K.length->(K.zip E).map (·.2)=E
 | [],[],_=>rfl
 | [],_::_,h=>by cases h
 | _::_,[],h=>by cases h
 | x::K,y::E,h=>by
  rw[List.zip_cons_cons,Bw,Mx (by simpa using h)]
theorem Th {G:Gr} {K:List (List It)} (hi:Inv G K E) (hE:E.length=K.length) {q j:Nat} (he:Ed E q s j):Au.iE (K.zip E) (q:Int) [s]=some (j:Int):=by
 have hj:j<E.length:=by
  have:=(Bk.1 (hi.to he)).1
  omega
 obtain⟨hq,hm⟩:=he
 have hl:lead (E.getD q []) s=(j:Int):=by
  rw[Aw,AH hq,Bu];exact GZ (ov hi hq) hm
 unfold iE;rw[Mx hE];rw[lZ,Az ω,lZ,Cj,hl,Az ω]
noncomputable def vF (K:List (List It)) (E:List (List (Int×Int))) (q:Nat) (s:Int):Nat:=((Au.iE (K.zip E) (q:Int) [s]).getD 0).toNat
theorem Nr {G:Gr} {K:List (List It)} (hi:Inv G K E) (hE:E.length=K.length) {q j:Nat} (he:Ed E q s j):vF K E q s=j:=by
 unfold vF;rw[Th hi hE he];simp
end Lk
namespace Lk
open Au Gm Go.Mw
section
variable {G:Gr} {K:List (List It)} {E:List (List (Int×Int))}
noncomputable def fN (G:Gr) (K:List (List It)):List (List It):=K.map (jb G)
theorem Lm (G:Gr) (K:List (List It)):(fN G K).length=K.length:=Bh _
theorem zP {q:Nat} (hq:q<K.length):(fN G K).getD q []=jb G (K.getD q []):=by
 unfold fN;rw[Aw,BO,Aw,AH hq];rfl
theorem Jp {q:Nat} {x:It} (h:x∈(fN G K).getD q []):q<K.length/\x∈jb G (K.getD q []):=by
 rcases BM q K.length with hq|hq
 ·rw[zP hq]at h;exact⟨hq,h⟩
 ·rw[Aw,Ch (by rw[Lm];exact hq)]at h;cases h
theorem Nq (hi:Inv G K E) (hE:E.length=K.length) (aa:Ok G) {q:Nat} {x:It} (hx:x∈(fN G K).getD q []) (hs:nx G x=some s):Ed E q s (vF K E q s)/\K[vF K E q s]?=some (mv G (jb G (K.getD q [])) s):=by
 obtain⟨hq,hx⟩:=Jp hx;obtain⟨j,h1,h2⟩:=hi.ji hE aa hq hx hs;rw[Nr hi hE h1];exact⟨h1,h2⟩
theorem Vb (hi:Inv G K E) (hE:E.length=K.length) (aa:Ok G) {q:Nat} {x:It} (hx:x∈(fN G K).getD q []) (hs:nx G x=some s):(x.1,x.2+1)∈(fN G K).getD (vF K E q s) []:=by
 have h2:=(Nq hi hE aa hx hs).2;have hl:=(Bk.1 h2).1;rw[zP hl,vL (hi.uu hl)];refine .of _ ?_;rw[Aw,h2,Bu];exact G4.2 ⟨x,(Jp hx).2,hs,rfl⟩
theorem UX (hi:Inv G K E) {q:Nat} {x:It} (hk:k<G.rs.length) (hx:x∈(fN G K).getD q []) (hs:nx G x=some s) (h0:s<0) (hl:(G.rs[k]).l = -1-s):((k:Int),(0:Int))∈(fN G K).getD q []:=by
 obtain⟨hq,hx⟩:=Jp hx;rw[zP hq,vL (hi.uu hq)];exact .on x ((vL (hi.uu hq)).1 hx) s hs h0 k hk hl
structure qN (G:Gr) (K:List (List It)) (E:List (List (Int×Int))) (S:SS):Prop where
 f:Fit (fN G K) S
 s:lH G E (fN G K) S
 b:At (fN G K) S 0 (-1,0) G.ts.length
 r:∀q i:Nat,ps G (vF K E) (fN G K) S (q,i)=S
theorem qN.cls {S:SS} (h:qN G K E S) (hi:Inv G K E) (hE:E.length=K.length) (aa:Ok G):Fk G E (fN G K) S :=
 ⟨h.b,fun q i=>S3 (fun _ _ _ _ _ _ he=>(Nr hi hE he).symm) (fun _ _ _ hx hs=>Vb hi hE aa hx hs) (fun _ _ _ _ hk hx hs h0 hl=>UX hi hk hx hs h0 hl) h.f (h.r q i)⟩
theorem Us (q:Nat):((fN G K).getD q []).Nodup:=by
 rcases BM q K.length with hq|hq
 ·rw[zP hq];exact Py (kT _ _)
 ·rw[Aw,Ch (by rw[Lm];exact hq)];exact List.nodup_nil
theorem UG {α:Type} {l:List α} (h:l.Nodup) {j:Nat} (hi:i<l.length) (hj:j<l.length) (e:l[i]=l[j]):i=j:=by
 have p:=Da.1 (BZ.1 h);rcases Nat.lt_trichotomy i j with k|k|k
 ·exact absurd e (p i j hi hj k)
 ·exact k
 ·exact absurd e.symm (p j i hj hi k)
theorem qN.la {S:SS} (h:qN G K E S) (hi:Inv G K E) (hE:E.length=K.length) (aa:Ok G) {q:Nat} {x:It} (hx:((fN G K).getD q [])[i]?=some x):(S.getD q []).getD i 0=xj G E q x:=by
 refine C9 fun t=>Bx.2 ?_;rw[MR aa,Uh aa h.s (h.cls hi hE aa)]
 constructor
 ·intro k;exact⟨t,rfl,i,hx,k⟩
 ·rintro⟨n,e,j,e1,e2⟩;obtain rfl:t=n:=ω
  obtain⟨h1,h2⟩:=Bk.1 hx;obtain⟨h3,h4⟩:=Bk.1 e1
  have:i=j:=UG (Us q) h1 h3 (h2.trans h4.symm)
  rw[this];exact e2
def Fp (G:Gr) (x:It):Bool:=(nx G x).isNone&&decide (0<=x.1)
def yK (G:Gr) (l:List It) (row:List Nat) (n:Nat):List (Int×Int):=(List.range n).filterMap fun i=>if Fp G (l.getD i (0,0))=true then some ((l.getD i (0,0)).1,(row.getD i 0:Int)) else none
theorem Qb (l:List It) (row:List Nat) (n:Nat):yK G l row (n+1)=yK G l row n++(if Fp G (l.getD n (0,0))=true then [((l.getD n (0,0)).1,(row.getD n 0:Int))] else []):=by
 unfold yK;rw[CM,List.filterMap_append]
 congr 1
 split <;> simp_all
theorem RC (l:List It) (row:List Nat) (f:It->Nat) (h:∀i x,l[i]?=some x->row.getD i 0=f x):yK G l row l.length=(l.filter (Fp G)).map fun x=>(x.1,(f x:Int)):=by
 have key:∀n,n<=l.length->yK G l row n=((l.take n).filter (Fp G)).map fun x=>(x.1,(f x:Int)):=by
  intro n;induction n with
  | zero=>intro _;rfl
  | succ n ih =>
   intro hn;have e:l[n]?=some l[n]:=AH ω;rw[Qb,ih ω,AP ω,CH,Bi,h n _ e]
   congr 1
   rw[Aw,e,Bu,CA];split <;> rfl
 rw[key _ (Af _),Bp]
theorem T7 (p:Nat->Bool) (n:Nat):jY (((List.range n).filter p).map (en G)):=by
 unfold jY;rw[Dr];refine((GU n).filter _).imp fun {a b} k=>?_;rw[lt_iff];unfold en;simp only;omega
theorem Ue {S:SS} (h:qN G K E S) (hi:Inv G K E) (hE:E.length=K.length) (aa:Ok G) {q:Nat} (hq:q<K.length):yK G (jb G (K.getD q [])) (S.getD q []) (jb G (K.getD q [])).length=gh G K E q:=by
 rw[RC _ _ (xj G E q) fun i x hx=>h.la hi hE aa (by rw[zP hq];exact hx)]
 have e1:gh G K E q=(((List.range G.rs.length).filter fun k=>tr (en G k∈jb G (K.getD q []))).map (en G)).map fun x=>(x.1,(xj G E q x:Int)):=by
  unfold gh lW;rw[Ee];generalize List.range G.rs.length=r;induction r with
  | nil=>rfl
  | cons k r ih =>
   rw[List.filterMap_cons,CA];by_cases c:tr (en G k∈jb G (K.getD q []))=true
   ·rw[Az c,Az c];simp only[Bw,Function.comp];rw[ih];rfl
   ·rw[AJ c,AJ c];exact ih
 rw[e1]
 congr 1
 refine Io ((kT _ _).filter _) (T7 _ _) fun z=>?_;rw[Cc,Bo]
 constructor
 ·rintro⟨hz,hc⟩;unfold Fp at hc;rw[Bd,Cr,Option.isNone_iff_eq_none]at hc;have hI:=gj.1 (mA hz)
  have hn:(sy G z.1).length<=z.2.toNat:=by
   unfold nx at hc;exact List.getElem?_eq_none_iff.1 hc.1
  have he:en G z.1.toNat=z:=by
   unfold en;rw[BH hc.2];exact EA rfl (by simp only;omega)
  refine⟨z.1.toNat,Cc.2 ⟨BU.2 ω,fV.2 (by rw[he];exact hz)⟩,he⟩
 ·rintro⟨k,hk,rfl⟩;obtain⟨h1,h2⟩:=Cc.1 hk;refine⟨fV.1 h2,?_⟩;unfold Fp;rw[Bd,Cr,Option.isNone_iff_eq_none];unfold en nx;refine⟨?_,by simp only;omega⟩;simp only[Cj];exact Ch (Af _)
end
end Lk
open Go.RowKit Go.ChangeShapes Go.WideShapes Go.ChangeAt
def jN (w:World) (B:Nat) (A:Option Addr) (zs:List Int):Prop :=
 zs.length≠0->∃g o,A=some ⟨g,o,none⟩/\g<B/\∀j,j<zs.length->w.cell? ⟨g,o+j,none⟩=some (.int .u32 (zs.getD j 0))
theorem jN.nil (w:World) (B:Nat) (A:Option Addr):jN w B A []:=fun h=>absurd rfl h
theorem jN.fp (h:jN w B A zs) (hk:∀g o,g<B->w'.cell? ⟨g,o,none⟩=w.cell? ⟨g,o,none⟩):jN w' B A zs:=fun hn=>by
 obtain⟨g,o,e,hg,hc⟩:=h hn;exact⟨g,o,e,hg,fun j hj=>(hk _ _ hg).trans (hc j hj)⟩
theorem jN.more (h:jN w B A zs) (hB:B<=B'):jN w B' A zs:=fun hn=>by
 obtain⟨g,o,e,hg,hc⟩:=h hn;exact⟨g,o,e,ω,hc⟩
theorem jN.below (h:jN w B A zs) (hb:Below B' w w') (hB:B<=B'):jN w' B A zs :=
 h.fp fun g o hg=>hb.cell (p:=⟨g,o,none⟩) (Aj hg hB)
theorem jN.drewN (h:jN w B A zs) (n:Nat):jN (w.drewN n) B A zs:=h
theorem jN.drew (h:jN w B A zs):jN w.drew B A zs:=h
theorem jN.alloc (h:jN w B A zs) (hB:B<=w.heap.size) (o:Obj):jN (w.alloc o) B A zs :=
 h.fp fun g i hg=>EH w o ⟨g,i,none⟩ (Aj hg hB)
theorem jN.grown (h:jN w B A zs) (hg:w.grownBy w' (some g)) (hB:B<=g) (hs:B<=w.heap.size):jN w' B A zs :=
 h.fp fun p o hp=>Ck (hg.block p ω (fun e=>by injection e with e;omega))
theorem jN.take {w:World} {B:Nat} {A:Option Addr} {zs:List Int} (h:jN w B A zs) (k:Nat):jN w B A (zs.take k):=fun hn=>by
 have hl:(zs.take k).length<=zs.length:=by rw[Bm];omega
 obtain⟨g,o,e,hg,hc⟩:=h ω;refine⟨g,o,e,hg,fun j hj=>?_⟩;rw[hc j ω,L.fy hj,L.fy (by omega:j<zs.length),Dn]
theorem jN.cell {o:Nat} (h:jN w B (some ⟨g,o,none⟩) zs) (j:Nat) (hj:j<zs.length):w.cell? ⟨g,o+j,none⟩=some (.int .u32 (zs.getD j 0)):=by
 obtain⟨g',o',e,_,hc⟩:=h ω;injection e with e;injection e with e1 e2;subst e1 e2;exact hc j hj
def iP (w:World) (g:Nat) (ls:List Int):Prop:=w.heap[g]?=some (.cells (ls.map (Value.int .u32)).toArray 104 (0,0))
theorem iP.lt (h:iP w g ls):g<w.heap.size:=by
 rcases BM g w.heap.size with aa|hge
 ·exact aa
 ·unfold iP at h;rw[Ev hge]at h;cases h
theorem iP.cell (h:iP w g ls) (i:Nat) (hi:i<ls.length):w.cell? ⟨g,i,none⟩=some (.int .u32 (ls.getD i 0)):=by
 rw[AF w g i _ _ _ h];simp[hi,List.getD]
theorem iP.frozen (h:iP w g ls) (i:Nat):w.frozen? ⟨g,i,none⟩=false:=AM w g i _ _ h
theorem iP.drewN (h:iP w g ls) (n:Nat):iP (w.drewN n) g ls:=h
theorem iP.drew (h:iP w g ls):iP w.drew g ls:=h
theorem iP.alloc (h:iP w g ls) (o:Obj):iP (w.alloc o) g ls:=(BD w o g h.lt).trans h
theorem iP.ky (h:iP w g ls) (i:Nat) (z:Int):iP (w.setCell ⟨g,i,none⟩ (.int .u32 z)) g (ls.set i z):=by
 unfold iP at h ⊢;rw[Ba w g i _ _ _ h]
 congr 2
 apply EI;simp[Cy]
theorem iP.jv (h:iP w g ls) (hp:g≠p.block) (u:Value):iP (w.setCell p u) g ls:=(AQ w p u g hp).trans h
theorem iP.below (h:iP w g ls) (hb:Below B w w') (hg:g<B):iP w' g ls:=(hb.block g hg).trans h
theorem iP.grown {row:Option Nat} (h:iP w g ls) (hb:w.grownBy w' row) (hg:some g≠row):iP w' g ls:=(hb.block g h.lt hg).trans h
theorem iP.Fq {o:Nat} {pre xs post:List Int} (h:iP w g (pre++xs++post)) (ho:o=pre.length) (k:Nat) (hk:k<xs.length):w.cell? ⟨g,o+k,none⟩=some (.int .u32 (xs.getD k 0)):=by
 rw[h.cell (o+k) (by simp;omega),ho,L.jS pre xs post k hk]
theorem iP.rd (h:iP w g ls) (o n:Nat) (hn:o+n<=ls.length) (hB:g<B):jN w B (some ⟨g,o,none⟩) ((ls.drop o).take n):=fun _=>by
 refine⟨g,o,rfl,hB,fun j hj=>?_⟩;have aa:j<n:=by rw[Bm]at hj;omega
 rw[h.cell (o+j) ω,L.fy hj,L.fy (by omega:o+j<ls.length),Dn,Dy]
theorem iP.p7 (h:iP w g ls) (hB:g<B):jN w B (some ⟨g,0,none⟩) ls:=by
 have:=h.rd 0 ls.length ω hB;simpa using this
theorem UM:(prog.info? 104).map (fun i=>(i.zero,i.size,i.bytes))=some (some (.int .u32 0),1,4):=κ
theorem Oo (n:Nat):(List.replicate n (0:Int)).map (Value.int .u32)=List.replicate n (.int .u32 0):=σ
theorem OS (h:w.ownsRow base 104 1 (.slice (some ⟨g,0,none⟩) n n) n (ls.map (Value.int .u32))):iP w g ls:=by
 rcases h.2 with⟨he,_⟩|⟨g',cap,cur,he,hb,hg,hn,hm,hs,ht⟩
 ·cases he
 ·injection he with e1 e2 e3;injection e1 with e1;injection e1 with e1;subst e1 e3;unfold iP;rw[hg,<-ht,Cq (by simp[hs])]
end Go.Proofs.YtjjbaehamplnaaaGreat
namespace Go.Proofs.YtjjbaehamplnaaaGreat
namespace S
def bit (n:Int):Nat:=if 0<=n/\n<=31 then 2 ^ n.toNat else 0
def of (l:List Int):Nat:=l.foldl (fun s n=>s ||| bit n) 0
theorem qQ (n:Int):bit n<4294967296:=by
 unfold bit;split
 ·have:2 ^ n.toNat<=2 ^ 31:=Co δ ω
  omega
 ·omega
theorem oh (h:k<=31):bit k=2 ^ k:=by unfold bit;rw[Az ω];simp
theorem rV {n:Int} (h:n<0):bit n=0:=by unfold bit;rw[AJ ω]
theorem wS {n:Int} (h:31<n):bit n=0:=by unfold bit;rw[AJ ω]
theorem Va {a:Nat} (ha:a<4294967296) (hb:b<4294967296):a ||| b<4294967296:=by
 have:=Nat.or_lt_two_pow (n:=32) (x:=a) (y:=b) ω ω;omega
theorem xB (l:List Int) (n:Int):of (l++[n])=of l ||| bit n:=by unfold of;rw[Ei];rfl
theorem of_lt (l:List Int):of l<4294967296:=by
 unfold of
 suffices ∀(l:List Int) (a:Nat),a<4294967296->l.foldl (fun s n=>s ||| bit n) a<4294967296 from this l 0 ω
 intro l;induction l with
 | nil=>intro a h;exact h
 | cons n r ih=>intro a h;exact ih _ (Va h (qQ n))
theorem zw (n:Int):of [n]=bit n:=by unfold of;simp
end S
theorem MI (n:Int) (h:0<=n):(2:Int) ^ (min n.toNat 32) % 4294967296=(S.bit n:Int):=by
 by_cases hb:n<=31
 ·obtain⟨k,rfl⟩:=Int.eq_ofNat_of_zero_le h;rw[S.oh ω,show min (k:Int).toNat 32=k by omega];have hp:2 ^ k<=2 ^ 31:=Co δ ω;have e:(2:Int) ^ k=((2 ^ k:Nat):Int):=σ
  rw[e];generalize 2 ^ k=a at *;omega
 ·rw[S.wS ω,show min n.toNat 32=32 by omega];decide
theorem Pz (n:Int) (w:World) :
  Calls prog 235 #[.int .i64 n] w fun e w'=>e=.returned (.int .u32 (S.bit n))/\w'=w:=by
 go_enter func235,ntmps235
 by_cases h:n<0
 ·have e:=aA (S.rV h);go_wp2;go_ret
  rw[e.o];exact⟨rfl,rfl⟩
 ·have h':0<=n:=ω
  have e:=aA (MI n h');go_wp2;go_ret
  exact⟨aR e.o,rfl⟩
theorem SO (A:Option Addr) (c B:Nat) (l:List Int) (w:World) (hr:gg w B A l) (hn:l.length<=9223372036854775807) :
  Calls prog 234 #[.slice A l.length c] w fun e w'=>e=.returned (.int .u32 (S.of l))/\∃n,w'=w.drewN n:=by
 go_enter func234,ntmps234
 go_wp2;go_loopw [8,3] (fun vi vs wr=>∃(k:Nat) (n:Nat),k<=l.length/\vi=.int .i64 k/\vs=.int .u32 (S.of (l.take k))/\wr=w.drewN n) (fun vi _ _=>l.length-(intOf vi).toNat)
 case atStart=>exact⟨0,0,ω,rfl,rfl,rfl⟩
 case round =>
  obtain⟨k,n,hk,rfl,rfl,rfl⟩:=hrel;by_cases aa:k<l.length
  ·obtain⟨g,o,rfl,_,hc⟩:=hr ω;have ab:=hc k aa;have ac:=aA (show S.of (l.take k) ||| S.bit (l.getD k 0)=S.of (l.take (k+1)) by rw[L.jt l k aa,S.xB]);have e:=aA (Fdq (S.of (l.take k)) (S.bit (l.getD k 0)) (S.of_lt _) (S.qQ _));generalize l.getD k 0=z at *;clear hc;go_wp2_with fail
   refine(Pz _ _).mono ?_;rintro _ _ ⟨rfl,rfl⟩;go_wp2_with (rw[e.o,ac.o])
   go_roundw
   case rel=>exact⟨k+1,_,ω,ν,rfl,rfl⟩
   case measure=>simp[intOf];omega
  ·obtain rfl:k=l.length:=ω
   rw[Bp];go_wp2;go_ret
   exact⟨rfl,_,rfl⟩
open Go.RowKit Go.ChangeShapes Go.WideShapes Go.ChangeAt
section
variable {α:Type} {m:Nat} {f:α->List Value} {T:TypeId}
theorem J2 {o:Oper} {a:Act} {Q:Exit->Act->World->Prop} {K:Act->World->Prop} (s x:Operand) (t:TypeId) (ho:o.op=.call {callee:=.builtin .append,args:=#[s,x],argTypes:=#[t,t]}) (ht:prog.underlying t=some (.slice T)) (z:Value) (bytes:Nat) (aa:(prog.info? T).map (fun i=>(i.zero,i.size,i.bytes))=some (some z,m,bytes)) (ad:z.cells.size=m) (hm:0<m) (ae:bytes<=100) (hf:∀x,(f x).length=m) (h1:∀x,∀u∈f x,u.oneCell'=true) (base:Nat) (v:Value) (xs:List α) (hs:a.eval s=v) (ac:aK T m f w base v xs) (g c:Nat) (y:α) (hx:a.eval x=.slice (some ⟨g,0,none⟩) 1 c) (hz:∀j u,(f y)[j]?=some u->w.cell? ⟨g,j,none⟩=some u) (af:xs.length<=1000000) (ab:base<=w.heap.size) (hK:∀v' w',aK T m f w' base v' (xs++[y])->w.grownBy w' v.ownBlock->K (a.put o.dst v') w') :
  o.wp prog a w K Q:=by
 obtain⟨i,hi,ag,ah,ai⟩:=CF aa;refine En w s x t ho base T i z m bytes ht hi ag ah ai ad hm v xs.length (xs.flatMap f) hs ac ⟨g,0,none⟩ 1 c (f y) hx (by rw[hf,Eu]) ?_ (h1 y) (by unfold maxLen;omega) (by have:=DT (show xs.length+1<=1000001 by omega) ae;omega) ab fun v' w' h2 h3 _=>hK v' w' ?_ h3
 ·intro j u hj;rw[Go.WideShapes.add_plain,BF];exact hz j u hj
 ·unfold aK;rw[AZ,BW,Ci];exact h2
theorem LM {rest:List Oper} {o:Oper} {a:Act} {Q:Exit->Act->World->Prop} (ad:o.guard=none) (s x:Operand) (t:TypeId) (ho:o.op=.call {callee:=.builtin .append,args:=#[s,x],argTypes:=#[t,t]}) (ht:prog.underlying t=some (.slice T)) (z:Value) (bytes:Nat) (aa:(prog.info? T).map (fun i=>(i.zero,i.size,i.bytes))=some (some z,m,bytes)) (ae:z.cells.size=m) (hm:0<m) (af:bytes<=100) (hf:∀x,(f x).length=m) (h1:∀x,∀u∈f x,u.oneCell'=true) (base:Nat) (v:Value) (xs:List α) (hs:a.eval s=v) (ac:aK T m f w base v xs) (g c:Nat) (y:α) (hx:a.eval x=.slice (some ⟨g,0,none⟩) 1 c) (hz:∀j u,(f y)[j]?=some u->w.cell? ⟨g,j,none⟩=some u) (ag:xs.length<=1000000) (ab:base<=w.heap.size) (hK:∀v' w',aK T m f w' base v' (xs++[y])->w.grownBy w' v.ownBlock->(v'.ownBlock=v.ownBlock\/v'.ownBlock=some w.heap.size)->wpList prog ops Q rest (a.put o.dst v') w') :
  wpList prog ops Q (o::rest) a w:=by
 obtain⟨i,hi,ah,ai,aj⟩:=CF aa;refine wpList_append_own_at w ad s x t ho base T i z m bytes ht hi ah ai aj ae hm v xs.length (xs.flatMap f) hs ac ⟨g,0,none⟩ 1 c (f y) hx (by rw[hf,Eu]) ?_ (h1 y) (by unfold maxLen;omega) (by have:=DT (show xs.length+1<=1000001 by omega) af;omega) ab fun v' w' h2 h3 _ h5=>hK v' w' ?_ h3 h5
 ·intro j u hj;rw[Go.WideShapes.add_plain,BF];exact hz j u hj
 ·unfold aK;rw[AZ,BW,Ci];exact h2
theorem M4 {o:Oper} {a:Act} {Q:Exit->Act->World->Prop} {K:Act->World->Prop} (s x:Operand) (t:TypeId) (ho:o.op=.call {callee:=.builtin .append,args:=#[s,x],argTypes:=#[t,t]}) (ht:prog.underlying t=some (.slice T)) (z:Value) (bytes:Nat) (ab:(prog.info? T).map (fun i=>(i.zero,i.size,i.bytes))=some (some z,m,bytes)) (ah:z.cells.size=m) (hm:0<m) (ai:bytes<=100) (hf:∀x,(f x).length=m) (h1:∀x,∀u∈f x,u.oneCell'=true) (base:Nat) (v:Value) (xs:List α) (hs:a.eval s=v) (aa:aK T m f w base v xs) (B n c:Nat) (A:Option Addr) (ys:List α) (hx:a.eval x=.slice A n c) (hn:n=ys.length) (hr:iC m f w B A ys) (aj:xs.length+ys.length<=1000000) (ac:base<=w.heap.size) (hK:∀v' w',aK T m f w' base v' (xs++ys)->w.grownBy w' v.ownBlock->K (a.put o.dst v') w') :
  o.wp prog a w K Q:=by
 obtain⟨i,hi,ak,al,am⟩:=CF ab;subst hn;rcases A with _|ad
 ·have hz:ys=[]:=by
   rcases Di ys.length with h0|h0
   ·exact BI h0
   ·obtain⟨g,o',h,_⟩:=hr ω;cases h
  subst hz;have ae:=Fx (P:=prog) w base t o.type T i m ht hi v xs.length _ aa c;unfold Oper.wp;simp[execOp,ho,resolve,invoke,builtin,hs,hx,ae,Result.andThen];exact hK v w (by simpa using aa) (AO _ _)
 ·refine En w s x t ho base T i z m bytes ht hi ak al am ah hm v xs.length (xs.flatMap f) hs aa ad ys.length c (ys.flatMap f) hx (tI hf ys) ?_ ?_ (by unfold maxLen;omega) (by have:=DT (show xs.length+ys.length<=1000000 by omega) ai;omega) ac fun v' w' h2 h3 _=>hK v' w' ?_ h3
  ·intro j u hj;have ao:j<ys.length*m:=by rw[<-tI hf ys];exact(Bk.1 hj).1
   have hd:j / m<ys.length:=by
    rcases BM (j / m) ys.length with h|h
    ·exact h
    ·have:=Dx m h
     have:=Nat.div_mul_le_self j m
     omega
   obtain⟨g,o',h,_,hc⟩:=hr (fun e=>by rw[e]at hd;exact absurd hd (Dj _))
   replace h:=DG h
   subst h;have af:j=j / m*m+j % m:=by rw[Nat.mul_comm];exact(Nat.div_add_mod j m).symm
   have ag:=hj;rw[af,xE hf ys _ _ hd (Nat.mod_lt _ hm)]at ag
   have:=hc _ hd _ _ ag
   rw[Go.WideShapes.add_plain];rw[Nat.add_assoc,<-af]at this;exact this
  ·intro u hu;obtain⟨y,_,hy⟩:=CJ.1 hu;exact h1 y u hy
  ·unfold aK;rw[AZ,BW];exact h2
theorem LW {o:Oper} {a:Act} {Q:Exit->Act->World->Prop} {K:Act->World->Prop} (s x:Operand) (t:TypeId) (ho:o.op=.call {callee:=.builtin .append,args:=#[s,x],argTypes:=#[t,t]}) (ht:prog.underlying t=some (.slice T)) (z:Value) (bytes:Nat) (aa:(prog.info? T).map (fun i=>(i.zero,i.size,i.bytes))=some (some z,m,bytes)) (ad:z.cells.size=m) (hm:0<m) (ae:bytes<=100) (hf:∀x,(f x).length=m) (h1:∀x,∀u∈f x,u.oneCell'=true) (base:Nat) (v:Value) (xs:List α) (hs:a.eval s=v) (ac:aK T m f w base v xs) (g c:Nat) (y:α) (hx:a.eval x=.slice (some ⟨g,0,none⟩) 1 c) (hz:∀j u,(f y)[j]?=some u->w.cell? ⟨g,j,none⟩=some u) (af:xs.length<=1000000) (ab:base<=w.heap.size) (hK:∀v' w',aK T m f w' base v' (xs++[y])->w.grownBy w' v.ownBlock->(v'.ownBlock=v.ownBlock\/v'.ownBlock=some w.heap.size)->K (a.put o.dst v') w') :
  o.wp prog a w K Q:=by
 obtain⟨i,hi,ag,ah,ai⟩:=CF aa;obtain⟨v',w',hr,h2,h3,_,h5⟩:=run_append_own_at (P:=prog) w base t o.type T i z m bytes ht hi ag ah ai ad hm v xs.length (xs.flatMap f) ac ⟨g,0,none⟩ 1 c (f y) (by rw[hf,Eu]) (fun j u hj=>by rw[Go.WideShapes.add_plain,BF];exact hz j u hj) (h1 y) (by unfold maxLen;omega) (by have:=DT (show xs.length+1<=1000001 by omega) ae;omega) ab;unfold Oper.wp execOp;simp only[ho,resolve,invoke,builtin,EP,Ds,E8,List.map_toArray,Bw,Dh,hs,hx,hr];refine hK _ _ ?_ h3 h5;unfold aK;rw[AZ,BW,Ci];exact h2
theorem K1 (w:World):aK T m f (w.alloc (.cells #[] T)) w.heap.size (.slice (some ⟨w.heap.size,0,none⟩) 0 0) [] :=
 ⟨σ,.inr ⟨w.heap.size,0,#[],rfl,Af _,AI w _,Af _,by unfold maxLen;omega,σ,σ⟩⟩
end
end Go.Proofs.YtjjbaehamplnaaaGreat
namespace Go.Proofs.YtjjbaehamplnaaaGreat
theorem TC:(match prog.underlying 61 with|some (.array _ _)|some (.struct _)=>true|_=>false)=true:=by rw[underlying61]
theorem Kt:Maps.Keyed prog 61:=Maps.Keyed.of_law (deep_law (m:=2) ω κ κ TC)
theorem Uk (x:Au.It) (h:Gm.In x.1/\Gm.In x.2):∃l,keyOf prog 61 (lV x)=some l:=by
 have h1:(Lit.int .i64 x.1).wf=true:=D4 (by unfold Gm.In at h;omega);have h2:(Lit.int .i64 x.2).wf=true:=D4 (by unfold Gm.In at h;omega);have hk:prog.keyType 61=true:=κ
 have hc:prog.cellsOf 61=2:=κ
 have aa:prog.cellsOf 3=1:=κ
 unfold keyOf;rw[underlying61];have ab:(lV x).formed prog 61=true:=by simp[Value.formed,underlying61,hc]
 have hl:∃ls,prog.keyLits (prog.types.size+1) 61 (lV x).cells.toList=some ls:=by
  obtain⟨n,hn⟩:∃n,prog.types.size=n+1:=⟨prog.types.size-1,by have:0<prog.types.size:=CN κ;omega⟩
  rw[hn];simp[Program.keyLits,underlying61,underlying3,hc,aa,Value.cells,h1,h2]
 obtain⟨ls,ac⟩:=hl;simp only[hk,ab,ac];exact⟨_,rfl⟩
def wu:Mw.qO prog 61 Au.It where
 enc x:=lV x
 ok x:=Gm.In x.1/\Gm.In x.2
 key x h:=Uk x h
 inj x y _ _ h:=by
  injection h with h;simp at h;exact EA h.1 h.2
theorem yH:(prog.info? 61).map (fun i=>(i.zero,i.size,i.bytes))=some (some (.agg #[.int .i64 0,.int .i64 0]),2,16):=κ
theorem tA (x:Int×Int):∀u∈fM x,u.oneCell'=true:=fun u hu=>by
 simp[fM]at hu;rcases hu with rfl|rfl <;> rfl
section
variable {α:Type} {m:Nat} {f:α->List Value}
def mb (m:Nat) (f:α->List Value) (w:World) (B:Nat) (A:Option Addr) (rows:List (List α)):Prop :=
 rows.length≠0->∃g o,A=some ⟨g,o,none⟩/\g<B/\∀i (h:i<rows.length),∃A' c',w.cell? ⟨g,o+i,none⟩=some (.slice A' rows[i].length c')/\rows[i].length<=c'/\c'<=9223372036854775807/\iC m f w B A' rows[i]
theorem mb.nil (w:World) (B:Nat) (A:Option Addr):mb m f w B A []:=fun h=>absurd rfl h
theorem mb.fp {w w':World} {B:Nat} {A:Option Addr} {rows:List (List α)} (h:mb m f w B A rows) (hk:∀g o,g<B->w'.cell? ⟨g,o,none⟩=w.cell? ⟨g,o,none⟩):mb m f w' B A rows:=fun hn=>by
 obtain⟨g,o,e,hg,hc⟩:=h hn;refine⟨g,o,e,hg,fun i hi=>?_⟩;obtain⟨A1,c1,h1,h2,h3,h4⟩:=hc i hi;exact⟨A1,c1,(hk _ _ hg).trans h1,h2,h3,h4.fp hk⟩
theorem mb.below {rows:List (List α)} (h:mb m f w B A rows) (hb:Below B' w w') (hB:B<=B'):mb m f w' B A rows :=
 h.fp fun g o hg=>hb.cell (p:=⟨g,o,none⟩) (Aj hg hB)
theorem mb.more {w:World} {B B':Nat} {A:Option Addr} {rows:List (List α)} (h:mb m f w B A rows) (hB:B<=B'):mb m f w B' A rows:=fun hn=>by
 obtain⟨g,o,e,hg,hc⟩:=h hn;refine⟨g,o,e,ω,fun i hi=>?_⟩;obtain⟨A1,c1,h1,h2,h3,h4⟩:=hc i hi;exact⟨A1,c1,h1,h2,h3,h4.more hB⟩
def qu (T:TypeId) (m:Nat) (f:α->List Value) (w:World) (base N:Nat) (A:Option Addr) (xs:List α):Prop :=
 xs.length≠0->∃(g:Nat) (cur:Array Value),A=some ⟨g,0,none⟩/\base<=g/\g<N/\w.heap[g]?=some (.cells cur T (0,0))/\∀i (h:i<xs.length) j u,(f xs[i])[j]?=some u->cur[i*m+j]?=some u
section
variable {T:TypeId} {w w':World} {base base' N N':Nat} {A:Option Addr} {xs:List α}
theorem qu.nil (T:TypeId) (w:World) (base N:Nat) (A:Option Addr):qu T m f w base N A []:=fun h=>absurd rfl h
theorem qu.fp (h:qu T m f w base N A xs) (hk:∀g cur,base<=g->g<N->w.heap[g]?=some (.cells cur T (0,0))->w'.heap[g]?=some (.cells cur T (0,0))):qu T m f w' base N A xs:=fun hn=>by
 obtain⟨g,cur,e,hb,hN,hh,hc⟩:=h hn;exact⟨g,cur,e,hb,hN,hk g cur hb hN hh,hc⟩
theorem qu.more (h:qu T m f w base N A xs) (hN:N<=N'):qu T m f w base N' A xs:=fun hn=>by
 obtain⟨g,cur,e,hb,h1,hh⟩:=h hn;exact⟨g,cur,e,hb,ω,hh⟩
theorem qu.less (h:qu T m f w base N A xs) (hb:base'<=base):qu T m f w base' N A xs:=fun hn=>by
 obtain⟨g,cur,e,h1,hN,hh⟩:=h hn;exact⟨g,cur,e,ω,hN,hh⟩
theorem qu.rd (h:qu T m f w base N A xs):iC m f w N A xs:=fun hn=>by
 obtain⟨g,cur,e,hb,hN,hh,hc⟩:=h hn;refine⟨g,0,e,hN,fun i hi j u hu=>?_⟩;rw[AF w g _ _ _ _ hh,BF];exact hc i hi j u hu
theorem ia.ve (h:ia T f w g xs) (hf:∀x,(f x).length=m) (hb:base<=g) (hN:g<N):qu T m f w base N (some ⟨g,0,none⟩) xs:=fun _=>by
 refine⟨g,_,rfl,hb,hN,h,fun i hi j u hu=>?_⟩;have hj:j<m:=by rw[<-hf xs[i]];exact(Bk.1 hu).1
 rw[Aq,xE hf xs i j hi hj];exact hu
theorem aK.ve {c:Nat} (h:aK T m f w base (.slice A n c) xs) (hf:∀x,(f x).length=m):qu T m f w base w.heap.size A xs:=fun hn=>by
 rcases h.2 with⟨e,h0⟩|⟨g,cap,cur,e,hb,hg,h1,hm,hs,ht⟩
 ·exact absurd h0 hn
 ·injection e with e1 e2 e3;refine⟨g,cur,e1,hb,(Ad.1 hg).1,hg,fun i hi j u hu=>?_⟩;have hj:j<m:=by rw[<-hf xs[i]];exact(Bk.1 hu).1
  have h2:(cur.toList.take (xs.length*m))[i*m+j]?=(xs.flatMap f)[i*m+j]?:=by rw[ht]
  have aa:i*m+j<xs.length*m:=by
   have:=Dx m (show i+1<=xs.length by omega)
   rw[Fi,Eu]at this;omega
  rw[Dd aa,EE,xE hf xs i j hi hj]at h2;rw[h2];exact hu
end
abbrev RW (α:Type):=List α×Option Addr×Nat
def jl (r:RW α):List Value:=[.slice r.2.1 r.1.length r.2.2]
theorem tE (r:RW α):(jl r).length=1:=rfl
theorem MT (r:RW α):∀u∈jl r,u.oneCell'=true:=fun u hu=>by
 simp[jl]at hu;subst hu;rfl
def bU (T:TypeId) (m:Nat) (f:α->List Value) (w:World) (base N:Nat) (r:RW α):Prop:=r.1.length<=r.2.2/\r.2.2<=9223372036854775807/\qu T m f w base N r.2.1 r.1
theorem bU.nil (T:TypeId) (w:World) (base N:Nat):bU T m f w base N (([],none,0):RW α):=⟨Af _,σ,qu.nil _ _ _ _ _⟩
theorem bU.fp {T:TypeId} {w w':World} {base N:Nat} {r:RW α} (h:bU T m f w base N r) (hk:∀g cur,base<=g->g<N->w.heap[g]?=some (.cells cur T (0,0))->w'.heap[g]?=some (.cells cur T (0,0))):bU T m f w' base N r:=⟨h.1,h.2.1,h.2.2.fp hk⟩
theorem bU.below {T:TypeId} {r:RW α} (h:bU T m f w base N r) (hb:Below B w w') (hN:N<=B):bU T m f w' base N r:=h.fp fun g _ _ hg hc=>(hb.block g (Aj hg hN)).trans hc
theorem bU.more {T:TypeId} {w:World} {base N N':Nat} {r:RW α} (h:bU T m f w base N r) (hN:N<=N'):bU T m f w base N' r:=⟨h.1,h.2.1,h.2.2.more hN⟩
theorem bU.less {T:TypeId} {w:World} {base base' N:Nat} {r:RW α} (h:bU T m f w base N r) (hb:base'<=base):bU T m f w base' N r:=⟨h.1,h.2.1,h.2.2.less hb⟩
theorem mb.of {T:TypeId} {rs:List (RW α)} (hB:g<B) (hc:∀i (h:i<rs.length),w.cell? ⟨g,i,none⟩=some (.slice rs[i].2.1 rs[i].1.length rs[i].2.2)) (hr:∀r∈rs,bU T m f w base B r):mb m f w B (some ⟨g,0,none⟩) (rs.map (·.1)):=fun _=>by
 refine⟨g,0,rfl,hB,fun i hi=>?_⟩;have aa:i<rs.length:=by simpa using hi
 obtain⟨h1,h2,h3⟩:=hr _ (AD aa);rw[Cg];exact⟨rs[i].2.1,rs[i].2.2,by rw[BF];exact hc i aa,h1,h2,h3.rd⟩
theorem ia.GB {T T2:TypeId} {rs:List (RW α)} (h:ia T jl w g rs) (hB:g<B) (hr:∀r∈rs,bU T2 m f w base B r):mb m f w B (some ⟨g,0,none⟩) (rs.map (·.1)) :=
 mb.of hB (fun i hi=>by have:=h.cell tE i 0 hi _ rfl;rw[DS,CB]at this;exact this) hr
theorem UW (xs:List (RW α)) (i:Nat) (y:RW α):(xs.flatMap jl).set i (.slice y.2.1 y.1.length y.2.2)=(xs.set i y).flatMap jl:=by
 induction xs generalizing i with
 | nil=>simp
 | cons x r ih =>
  cases i with
  | zero=>rfl
  | succ i =>
   show _::(r.flatMap jl).set i _=_::(r.set i y).flatMap jl
   rw[ih i]
theorem ia.xJ {T:TypeId} {xs:List (RW α)} (h:ia T jl w g xs) (i:Nat) (y:RW α) (A:Option Addr) (n c:Nat) (h1:y.2.1=A) (h2:y.1.length=n) (h3:y.2.2=c):ia T jl (w.setCell ⟨g,i,none⟩ (.slice A n c)) g (xs.set i y):=by
 subst h1 h2 h3;unfold ia at h ⊢;rw[Ba _ g _ _ _ _ h]
 congr 2
 apply EI;rw[<-UW xs i y];simp
end
end Go.Proofs.YtjjbaehamplnaaaGreat
