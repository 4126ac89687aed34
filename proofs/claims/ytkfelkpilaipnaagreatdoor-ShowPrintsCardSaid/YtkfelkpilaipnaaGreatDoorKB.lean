/- Part of the proofs over this program: Floats, PlaceFn, PlaceAt, LexTok, LexScan, YaccL, WordsI, YaccHas, YaccW, LexToks, YaccRd, Calm, CalmT, YaccP. -/
import Derived.Laws.FloatArith
import Derived.OrdersHeld
import Derived.Test.YtkfelkpilaipnaaGreatDoorKA
namespace Go.Proofs.YtkfelkpilaipnaaGreatDoor.Fl
open Ieee
def fl (n:Int):Nat:=floatOfInt .f64 n
def St (d:Datum) (n k:Nat):Prop:=d=.number false (n*2 ^ k) (-(k:Int))
theorem lp:double.leastPlace = -1074:=by decide
theorem bn:double.binade=4503599627370496:=by decide
theorem fb:double.fractionBits=52:=rfl
theorem zdC (n k:Nat) (h:0<n):(n*2 ^ k).log2=n.log2+k:=by
 induction k with
 | zero=>simp
 | succ k ih =>
  have e:n*2 ^ (k+1)=2*(n*2 ^ k):=by rw[Nat.pow_succ];grind
  rw[e,Nat.log2_two_mul (by have:=Nat.two_pow_pos k;have:=Nat.mul_pos h this;omega),ih];omega
theorem zcC (neg:Bool) (way:Toward) (n d:Nat) (h:d≤(n*2 ^ d).log2+2∨n=0):way.cut neg (n*2 ^ d) d=n:=by
 unfold Toward.cut
 dsimp only
 rcases h with h|h
 ·rw[Nat.min_eq_left h,Nat.one_shiftLeft,Nat.mul_div_cancel _ (Nat.two_pow_pos d),Nat.mul_mod_left]
  have hp:=Nat.two_pow_pos d
  have h1:¬(2 ^ d<2*0):=by omega
  have h2:(2 ^ d==2*0)=false:=by simp
  cases way <;> simp
 ·subst h
  simp only[Nat.zero_mul,Nat.zero_div,Nat.zero_mod]
  have hp:0<1 <<< min d (Nat.log2 0+2):=by rw[Nat.one_shiftLeft];exact Nat.two_pow_pos _
  generalize 1 <<< min d (Nat.log2 0+2)=g at hp ⊢
  have h2:(g==2*0)=false:=by simp;omega
  cases way <;> simp
theorem zjd (l m:Nat) (hl:l<53) (hm:m<9007199254740992):min ((l+1022)*4503599627370496+m) 9218868437227405312=(l+1022)*4503599627370496+m :=
 Nat.min_eq_left (by omega)
theorem zc6 (n k:Nat) (h0:0<n) (h:n<2 ^ 53) :
  double.nearest false (n*2 ^ k) (-(k:Int))=(n.log2+1022)*4503599627370496+n*2 ^ (52-n.log2):=by
 have hl:n.log2<53:=(Nat.log2_lt (by omega)).2 h
 have hp:=Nat.two_pow_pos k
 have hm:n*2 ^ k≠0:=by have:=Nat.mul_pos h0 hp;omega
 unfold Format.nearest
 rw[if_neg hm]
 simp only[lp,bn,fb,zdC n k h0]
 have e1:max (-(k:Int)+((n.log2+k:Nat):Int)-(52:Nat)) (-1074)=(n.log2:Int)-52:=by omega
 rw[e1]
 have e2:((n.log2:Int)-52 - -1074).toNat=n.log2+1022:=by omega
 rw[e2]
 have hk:Toward.even.cut false ((n*2 ^ k) <<< (-(k:Int)-((n.log2:Int)-52)).toNat) ((n.log2:Int)-52 - -(k:Int)).toNat=n*2 ^ (52-n.log2):=by
  by_cases hc:k≤52-n.log2
  ·have a1:(-(k:Int)-((n.log2:Int)-52)).toNat=52-n.log2-k:=by omega
   have a2:((n.log2:Int)-52 - -(k:Int)).toNat=0:=by omega
   rw[a1,a2,Nat.shiftLeft_eq,Nat.mul_assoc n,←Nat.pow_add,show k+(52-n.log2-k)=52-n.log2 by omega]
   have:=zcC false .even (n*2 ^ (52-n.log2)) 0 (Or.inl (by omega))
   simpa using this
  ·have a1:(-(k:Int)-((n.log2:Int)-52)).toNat=0:=by omega
   have a2:((n.log2:Int)-52 - -(k:Int)).toNat=k-(52-n.log2):=by omega
   rw[a1,a2,Nat.shiftLeft_zero]
   have e:n*2 ^ k=(n*2 ^ (52-n.log2))*2 ^ (k-(52-n.log2)):=by rw[Nat.mul_assoc,←Nat.pow_add,show 52-n.log2+(k-(52-n.log2))=k by omega]
   rw[e]
   refine zcC false .even _ _ (Or.inl ?_)
   rw[←e,zdC n k h0];omega
 rw[hk]
 have hlt:n*2 ^ (52-n.log2)<2 ^ 53:=by
  have:n<2 ^ (n.log2+1):=Nat.lt_log2_self
  calc n*2 ^ (52-n.log2)<2 ^ (n.log2+1)*2 ^ (52-n.log2):=Nat.mul_lt_mul_of_pos_right this (Nat.two_pow_pos _)
   _=2 ^ 53:=by rw[←Nat.pow_add];congr 1;omega
 replace hlt:n*2 ^ (52-n.log2)<9007199254740992:=hlt
 have hi:double.infRung=9218868437227405312:=by decide
 rw[hi]
 unfold Format.word
 simp only[Bool.false_eq_true,if_false]
 exact zjd n.log2 _ hl hlt
theorem zjU (n:Nat) (h0:0<n) (h:n<2 ^ 53):fl n=(n.log2+1022)*4503599627370496+n*2 ^ (52-n.log2):=by
 unfold fl floatOfInt FloatKind.nearest FloatKind.encode
 simp only[FloatKind.format,Format.write]
 have e:decide ((n:Int)<0)=false:=by simp
 rw[e]
 have:=zc6 n 0 h0 h
 simpa using this
theorem fl_zero:fl 0=0:=by decide +kernel
theorem fl_one:fl 1=4607182418800017408:=by decide +kernel
theorem fl_most:fl 1073741824=4742290407621132288:=by decide +kernel
theorem zco (n:Nat) (h:n<2 ^ 53):∃k,St (FloatKind.f64.decode (fl n)) n k∧(0<n→k≤52):=by
 by_cases h0:n=0
 ·subst h0;exact⟨1074,(by decide +kernel:FloatKind.f64.decode (fl ((0:Nat):Int))=Datum.number false (0*2 ^ 1074) (-((1074:Nat):Int))),by omega⟩
 ·have hl:n.log2<53:=(Nat.log2_lt (by omega)).2 h
  refine⟨52-n.log2,?_,by omega⟩
  have hlo:2 ^ 52≤n*2 ^ (52-n.log2):=by
   have:2 ^ n.log2≤n:=Nat.log2_self_le h0
   calc 2 ^ 52=2 ^ n.log2*2 ^ (52-n.log2):=by rw[←Nat.pow_add];congr 1;omega
    _≤_:=Nat.mul_le_mul_right _ this
  have hlt:n*2 ^ (52-n.log2)<2 ^ 53:=by
   have:n<2 ^ (n.log2+1):=Nat.lt_log2_self
   calc n*2 ^ (52-n.log2)<2 ^ (n.log2+1)*2 ^ (52-n.log2):=Nat.mul_lt_mul_of_pos_right this (Nat.two_pow_pos _)
    _=2 ^ 53:=by rw[←Nat.pow_add];congr 1;omega
  rw[zjU n (by omega) h]
  unfold St
  show Format.read double _=_
  unfold Format.read
  dsimp only
  have hs:double.signWeight=9223372036854775808:=by decide
  have hi:double.infRung=9218868437227405312:=by decide
  rw[hs,hi,bn,lp]
  generalize n*2 ^ (52-n.log2)=m at hlo hlt ⊢
  generalize n.log2=l at hl ⊢
  have q1:((l+1022)*4503599627370496+m) / 9223372036854775808=0:=by omega
  have q2:((l+1022)*4503599627370496+m) % 9223372036854775808=(l+1022)*4503599627370496+m:=by omega
  have q3:((l+1022)*4503599627370496+m) / 4503599627370496=l+1023:=by omega
  have q4:((l+1022)*4503599627370496+m) % 4503599627370496=m-4503599627370496:=by omega
  rw[q1,q2,q3,q4,if_neg (by omega),if_pos (by omega)]
  have e1:4503599627370496+(m-4503599627370496)=m:=by omega
  have e2:(-1074:Int)+((l+1023-1:Nat):Int) = -((52-l:Nat):Int):=by omega
  rw[e1,e2]
  rfl
theorem zbs (n k K:Nat) (h:k≤K):signed false (n*2 ^ k) (-(k:Int) - -(K:Int)).toNat=((n*2 ^ K:Nat):Int):=by
 unfold signed
 have e:(-(k:Int) - -(K:Int)).toNat=K-k:=by omega
 rw[e,Nat.shiftLeft_eq,Nat.mul_assoc,←Nat.pow_add,show k+(K-k)=K by omega]
 simp
theorem zi1 {d e:Datum} {a i b j:Nat} (hd:St d a i) (he:St e b j):d.order e=some (compare a b):=by
 unfold St at hd he
 subst hd;subst he
 unfold Datum.order
 have e1:min (-(i:Int)) (-(j:Int)) = -((max i j:Nat):Int):=by omega
 simp only[e1,zbs a i (max i j) (Nat.le_max_left ..),zbs b j (max i j) (Nat.le_max_right ..)]
 have hp:=Nat.two_pow_pos (max i j)
 generalize 2 ^ max i j=p at hp
 congr 1
 rcases Nat.lt_trichotomy a b with h|h|h
 ·rw[Nat.compare_eq_lt.2 h,Int.compare_eq_lt.2]
  have:=Nat.mul_lt_mul_of_pos_right h hp
  omega
 ·subst h;rw[Nat.compare_eq_eq.2 rfl,Int.compare_eq_eq.2 rfl]
 ·rw[Nat.compare_eq_gt.2 h,Int.compare_eq_gt.2]
  have:=Nat.mul_lt_mul_of_pos_right h hp
  omega
theorem order_fl (a b:Nat) (ha:a<2 ^ 53) (hb:b<2 ^ 53):FloatKind.f64.format.order (fl a) (fl b)=some (compare a b):=by
 obtain⟨i,hi,_⟩:=zco a ha
 obtain⟨j,hj,_⟩:=zco b hb
 exact zi1 hi hj
theorem add_fl (a b:Nat) (h:a+b<2 ^ 53):floatBits .add .f64 (fl a) (fl b)=some (fl ((a+b:Nat):Int)):=by
 obtain⟨i,hi,_⟩:=zco a (by omega)
 obtain⟨j,hj,_⟩:=zco b (by omega)
 unfold floatBits Format.add
 simp only
 unfold FloatKind.decode at hi hj
 unfold St at hi hj
 rw[hi,hj]
 unfold Datum.sum
 have e1:min (-(i:Int)) (-(j:Int)) = -((max i j:Nat):Int):=by omega
 simp only[e1,zbs a i (max i j) (Nat.le_max_left ..),zbs b j (max i j) (Nat.le_max_right ..),Option.map_some]
 congr 1
 rw[←Int.natCast_add,←Nat.add_mul]
 have hneg:(if((((a+b)*2 ^ max i j:Nat):Int)=0) then(false&&false) else decide ((((a+b)*2 ^ max i j:Nat):Int)<0))=false:=by
  split
  ·rfl
  ·simp only[decide_eq_false_iff_not];omega
 rw[hneg]
 simp only[Format.write,Int.natAbs_natCast]
 by_cases h0:a+b=0
 ·rw[h0]
  rw[show((0:Nat):Int)=0 from rfl,fl_zero]
  unfold Format.nearest
  simp[Format.word]
 ·rw[zjU (a+b) (by omega) h]
  exact zc6 (a+b) (max i j) (by omega) h
theorem int_fl (n:Nat) (h:n<2 ^ 53):floatToIntVal .f64 (fl n) .i64=some (n:Int):=by
 obtain⟨k,hk,hk2⟩:=zco n h
 unfold floatToIntVal
 unfold St at hk
 rw[hk]
 have ht:(Datum.number false (n*2 ^ k) (-(k:Int))).toInt .zero=some (n:Int):=by
  unfold Datum.toInt Datum.integral
  simp only
  have e1:(-(k:Int)).toNat=0:=by omega
  have e2:(- -(k:Int)).toNat=k:=by omega
  rw[e1,e2,Nat.shiftLeft_zero,zcC]
  ·simp[signed]
  ·by_cases h0:n=0
   ·exact Or.inr h0
   ·left;rw[zdC n k (by omega)];omega
 rw[ht]
 simp only
 rw[if_pos]
 have e1:IntKind.i64.min = -9223372036854775808:=by decide
 have e2:IntKind.i64.max=9223372036854775807:=by decide
 rw[e1,e2]
 omega
end Go.Proofs.YtkfelkpilaipnaaGreatDoor.Fl
namespace Go.Proofs.YtkfelkpilaipnaaGreatDoor
set_option maxRecDepth 100000
set_option maxHeartbeats 40000000
open Go.RowKit
def pl (l c:Int):Value:=.complex .f64 (Fl.fl l) (Fl.fl c)
def okN (n:Int):Prop:=1≤n∧n≤1073741824
theorem okN.nat {n:Int} (h:okN n):∃m:Nat,n=m∧1≤m∧m≤1073741824:=by
 unfold okN at h
 exact⟨n.toNat,by omega,by omega,by omega⟩
theorem zdb (n:Int) (w:World) (h:okN n) :
  Calls Tryz.prog 165 #[.float .f64 (Fl.fl n)] w fun e w'=>e=.returned (.bool true)∧w=w':=by
 obtain⟨m,rfl,h1,h2⟩:=h.nat
 have o1:(FloatKind.f64.format.order 4607182418800017408 (Fl.fl m)==some .lt||FloatKind.f64.format.order 4607182418800017408 (Fl.fl m)==some .eq)=true:=by
  rw[←Fl.fl_one]
  have e:=Fl.order_fl 1 m (by decide) (by omega)
  rw[show Fl.fl 1=Fl.fl ((1:Nat):Int) from rfl,e]
  by_cases e1:m=1
  ·subst e1;rfl
  ·rw[Nat.compare_eq_lt.2 (by omega)];rfl
 have o2:(FloatKind.f64.format.order (Fl.fl m) 4742290407621132288==some .lt||FloatKind.f64.format.order (Fl.fl m) 4742290407621132288==some .eq)=true:=by
  rw[←Fl.fl_most]
  have e:=Fl.order_fl m 1073741824 (by omega) (by decide)
  rw[show Fl.fl 1073741824=Fl.fl ((1073741824:Nat):Int) from rfl,e]
  by_cases e1:m=1073741824
  ·subst e1;rfl
  ·rw[Nat.compare_eq_lt.2 (by omega)];rfl
 have o3:(FloatKind.f64.format.order (Fl.fl m) (Fl.fl m)==some .eq)=true:=by
  rw[Fl.order_fl m m (by omega) (by omega),Nat.compare_eq_eq.2 rfl];rfl
 have C1:∀w,(convert 155 3 (.float .f64 (Fl.fl m))).run Tryz.prog w=.ok (.int .i64 m) w:=fun w=>run_convert_float_int w _ _ .f64 .i64 _ _ (by rw[Tryz.underlying155];rfl) Tryz.underlying3 (Fl.int_fl m (by omega))
 have C2:∀w,(convert 3 155 (.int .i64 m)).run Tryz.prog w=.ok (.float .f64 (Fl.fl m)) w:=fun w=>run_convert_int_float w _ _ .i64 .f64 _ (by rw[Tryz.underlying3];rfl) Tryz.underlying155
 generalize Fl.fl m=x at *
 go_enter Tryz.func165,Tryz.ntmps165
 go_wp2_with (first|simp only[C1]|simp only[C2])
 go_ret
 exact⟨rfl,rfl⟩
theorem zcm (l c:Int) (w:World) (hl:okN l) (hc:okN c) :
  Calls Tryz.prog 145 #[.complex .f64 (Fl.fl l) (Fl.fl c)] w fun e w'=>e=.returned (.bool true)∧w=w':=by
 have P1:=fun w=>zdb l w hl
 have P2:=fun w=>zdb c w hc
 generalize Fl.fl l=x at *
 generalize Fl.fl c=y at *
 go_enter Tryz.func145,Tryz.ntmps145
 go_wp2_with fail
 refine(P1 _).mono ?_;rintro _ w' ⟨rfl,rfl⟩
 go_wp2_with fail
 refine(P2 _).mono ?_;rintro _ w' ⟨rfl,rfl⟩
 go_wp2
 go_ret
 exact⟨rfl,rfl⟩
theorem zbE (l c:Int) (w:World) (hl:okN l) (hc:okN c) :
  Calls Tryz.prog 108 #[.complex .f64 (Fl.fl l) (Fl.fl c)] w fun e w'=>e=.returned (.complex .f64 (Fl.fl l) (Fl.fl c))∧w=w':=by
 have P1:=fun w=>zcm l c w hl hc
 generalize Fl.fl l=x at *
 generalize Fl.fl c=y at *
 go_enter Tryz.func108,Tryz.ntmps108
 go_wp2_with fail
 refine(P1 _).mono ?_;rintro _ w' ⟨rfl,rfl⟩
 go_wp2
 go_ret
 exact⟨rfl,rfl⟩
theorem zk1 (l c:Int) (w:World) (hl:okN l) (hc:okN c) :
  Calls Tryz.prog 79 #[.int .i64 l,.int .i64 c] w fun e w'=>e=.returned (.complex .f64 (Fl.fl l) (Fl.fl c))∧w=w':=by
 have P1:=fun w=>zbE l c w hl hc
 have C2:∀n w,(convert 3 155 (.int .i64 n)).run Tryz.prog w=.ok (.float .f64 (Fl.fl n)) w:=fun n w=>run_convert_int_float w _ _ .i64 .f64 _ (by rw[Tryz.underlying3];rfl) Tryz.underlying155
 go_enter Tryz.func79,Tryz.ntmps79
 go_wp2_with (simp only[C2])
 refine(P1 _).mono ?_;rintro _ w' ⟨rfl,rfl⟩
 go_wp2
 go_ret
 exact⟨rfl,rfl⟩
theorem ziz (l:Int) (h:okN l):floatBits .add .f64 (Fl.fl l) 4607182418800017408=some (Fl.fl (l+1)):=by
 obtain⟨m,rfl,h1,h2⟩:=h.nat
 have:=Fl.add_fl m 1 (by omega)
 rw[←Fl.fl_one]
 exact this
theorem zjD (l:Int) (h:okN l):floatBits .add .f64 (Fl.fl l) 0=some (Fl.fl l):=by
 obtain⟨m,rfl,h1,h2⟩:=h.nat
 have:=Fl.add_fl m 0 (by omega)
 rw[show Fl.fl ((0:Nat):Int)=0 from Fl.fl_zero]at this
 exact this
theorem zhc (l c:Int) (w:World) (hl:okN l) (hc:okN c) (h:okN (l+1)) :
  Calls Tryz.prog 109 #[.complex .f64 (Fl.fl l) (Fl.fl c),.int .u8 10] w fun e w'=>e=.returned (.complex .f64 (Fl.fl (l+1)) (Fl.fl 1))∧w=w':=by
 have P1:=fun w=>zcm l c w hl hc
 have P2:=fun w=>zbE (l+1) 1 w h (by unfold okN;omega)
 have S1:∀t w,(binOp .add t (.float .f64 (Fl.fl l)) (.float .f64 4607182418800017408)).run Tryz.prog w=.ok (.float .f64 (Fl.fl (l+1))) w:=fun t w=>run_float_arith w .add t .f64 _ _ _ (ziz l hl)
 rw[Fl.fl_one]at P2 ⊢
 generalize Fl.fl (l+1)=z at *
 generalize Fl.fl l=x at *
 generalize Fl.fl c=y at *
 go_enter Tryz.func109,Tryz.ntmps109
 go_wp2_with fail
 refine(P1 _).mono ?_;rintro _ w' ⟨rfl,rfl⟩
 go_wp2_with fail
 refine(P2 _).mono ?_;rintro _ w' ⟨rfl,rfl⟩
 go_wp2
 go_ret
 exact⟨rfl,rfl⟩
theorem zj9 (l c k:Int) (w:World) (hl:okN l) (hc:okN c) (h:okN (c+1)) (hk:(k==10)=false) :
  Calls Tryz.prog 109 #[.complex .f64 (Fl.fl l) (Fl.fl c),.int .u8 k] w fun e w'=>e=.returned (.complex .f64 (Fl.fl l) (Fl.fl (c+1)))∧w=w':=by
 have P1:=fun w=>zcm l c w hl hc
 have P2:=fun w=>zbE l (c+1) w hl h
 have S1:∀t w,(binOp .add t (.complex .f64 (Fl.fl l) (Fl.fl c)) (.complex .f64 0 4607182418800017408)).run Tryz.prog w=.ok (.complex .f64 (Fl.fl l) (Fl.fl (c+1))) w:=fun t w=>run_complex_sum w .add (Or.inl rfl) t .f64 _ _ _ _ _ _ (by unfold cSumBits;rw[zjD l hl,ziz c hc];rfl)
 generalize Fl.fl (c+1)=z at *
 generalize Fl.fl l=x at *
 generalize Fl.fl c=y at *
 go_enter Tryz.func109,Tryz.ntmps109
 go_wp2_with fail
 refine(P1 _).mono ?_;rintro _ w' ⟨rfl,rfl⟩
 go_wp2_with fail
 refine(P2 _).mono ?_;rintro _ w' ⟨rfl,rfl⟩
 go_wp2
 go_ret
 exact⟨rfl,rfl⟩
theorem zkf (l c:Int) (w:World) (hl:okN l) (hc:okN c) :
  Calls Tryz.prog 130 #[.int .i64 l,.int .i64 c] w fun e w'=>e=.returned (.complex .f64 (Fl.fl l) (Fl.fl c))∧w=w':=by
 have C2:∀n w,(convert 3 155 (.int .i64 n)).run Tryz.prog w=.ok (.float .f64 (Fl.fl n)) w:=fun n w=>run_convert_int_float w _ _ .i64 .f64 _ (by rw[Tryz.underlying3];rfl) Tryz.underlying155
 obtain⟨h1,h2⟩:=hl
 obtain⟨h3,h4⟩:=hc
 go_enter Tryz.func130,Tryz.ntmps130
 go_wp2_with (simp only[C2])
 go_ret
 exact⟨rfl,rfl⟩
namespace Pl
def stp (p:Int×Int) (z:Int):Int×Int:=if z=10 then(p.1+1,1) else(p.1,p.2+1)
def pos (l:List Int):Int×Int:=l.foldl stp (1,1)
theorem zi0 (l:List Int) (z:Int):pos (l++[z])=stp (pos l) z:=by unfold pos;rw[List.foldl_append];rfl
theorem pos_next (l:List Int) (k:Nat) (h:k<l.length):pos (l.take (k+1))=stp (pos (l.take k)) (l.getD k 0):=by rw[L.take_snoc l k h,zi0]
theorem pos_bd (l:List Int) (k:Nat) (h:k≤l.length):1≤(pos (l.take k)).1∧(pos (l.take k)).1≤1+k∧1≤(pos (l.take k)).2∧(pos (l.take k)).2≤1+k:=by
 induction k with
 | zero=>simp[pos]
 | succ k ih =>
  have:=ih (by omega)
  rw[pos_next l k (by omega)]
  unfold stp
  split <;> simp only <;> omega
end Pl
theorem zc0 (A:Option Addr) (c B:Nat) (l:List Int) (i:Nat) (w:World) (hr:RdB w B A l) (hn:l.length≤2000) (hi:i≤l.length) :
  Calls Tryz.prog 92 #[.slice A l.length c,.int .i64 i] w fun e w'=>e=.returned (.complex .f64 (Fl.fl (Pl.pos (l.take i)).1) (Fl.fl (Pl.pos (l.take i)).2))∧w=w':=by
 have hi':¬(l.length:Int)<i:=by omega
 go_enter Tryz.func92,Tryz.ntmps92
 go_wp2
 go_loop [7,5,6] (fun vi vl vc=>∃(k:Nat),k≤i∧vi=.int .i64 k∧vl=.int .i64 (Pl.pos (l.take k)).1∧vc=.int .i64 (Pl.pos (l.take k)).2) (fun vi _ _=>i-(intOf vi).toNat)
 case atStart=>exact⟨0,by omega,rfl,rfl,rfl⟩
 case round =>
  obtain⟨k,hk,rfl,rfl,rfl⟩:=hrel
  have hb:=Pl.pos_bd l k (by omega)
  by_cases hlt:k<i
  ·obtain⟨g,o,rfl,_,hcl⟩:=hr (by omega)
   have hcell:=hcl k (by omega)
   have hnx:=aA (Pl.pos_next l k (by omega))
   have hkl:k<l.length:=by omega
   generalize l.getD k 0=z at *
   generalize Pl.pos (l.take k)=p at *
   obtain⟨x,y⟩:=p
   simp only at hb
   obtain⟨b1,b2,b3,b4⟩:=hb
   clear hcl
   by_cases h10:z=10
   ·subst h10
    go_wp2
    go_round
    case rel=>exact⟨k+1,by omega,by go_num,by rw[hnx.out];rfl,by rw[hnx.out];rfl⟩
    case measure=>simp[intOf];omega
   ·have h11:(z==10)=false:=by simpa using h10
    have HN:=aA h10
    clear h10
    go_wp2
    go_round
    case rel=>exact⟨k+1,by omega,by go_num,by rw[hnx.out];unfold Pl.stp;rw[if_neg HN.out],by rw[hnx.out];unfold Pl.stp;rw[if_neg HN.out]⟩
    case measure=>simp[intOf];omega
  ·obtain rfl:k=i:=by omega
   clear hr
   have HS:=aA (fun w=>zkf (Pl.pos (l.take k)).1 (Pl.pos (l.take k)).2 w (by unfold okN;omega) (by unfold okN;omega))
   clear hb
   go_wp2_with fail
   refine(HS.out _).mono ?_;rintro _ w' ⟨rfl,rfl⟩
   go_wp2
   go_ret
   exact⟨rfl,rfl⟩
namespace Pl
def go (p:Int×Int) (l:List Int):Int×Int:=l.foldl stp p
theorem zkx (p:Int×Int) (l:List Int) (z:Int):go p (l++[z])=stp (go p l) z:=by unfold go;rw[List.foldl_append];rfl
theorem go_next (p:Int×Int) (l:List Int) (k:Nat) (h:k<l.length):go p (l.take (k+1))=stp (go p (l.take k)) (l.getD k 0):=by rw[L.take_snoc l k h,zkx]
theorem go_bd (p:Int×Int) (hx:1≤p.1) (hy:1≤p.2) (l:List Int) (k:Nat) (h:k≤l.length):1≤(go p (l.take k)).1∧(go p (l.take k)).1≤p.1+k∧1≤(go p (l.take k)).2∧(go p (l.take k)).2≤p.2+k:=by
 induction k with
 | zero=>simp[go];omega
 | succ k ih =>
  have:=ih (by omega)
  rw[go_next p l k (by omega)]
  unfold stp
  split <;> simp only <;> omega
theorem go_pos (L:List Int) (k n:Nat):go (pos (L.take k)) ((L.drop k).take n)=pos (L.take (k+n)):=by
 unfold go pos
 rw[←List.foldl_append,←List.take_add]
end Pl
theorem zgN (A:Option Addr) (c B:Nat) (l:List Int) (p:Int×Int) (hx:1≤p.1) (hx2:p.1≤10000) (hy:1≤p.2) (hy2:p.2≤10000) (w:World) (hr:RdB w B A l) (hl:K.Bytes l) (hn:l.length≤5000) :
  Calls Tryz.prog 80 #[.complex .f64 (Fl.fl p.1) (Fl.fl p.2),.slice A l.length c] w fun e w'=>e=.returned (.complex .f64 (Fl.fl (Pl.go p l).1) (Fl.fl (Pl.go p l).2))∧w=w':=by
 have HB:=aA (Pl.go_bd p hx hy l)
 have HN:=aA (Pl.go_next p l)
 have HE:Hid (Pl.go p (l.take l.length)=Pl.go p l):=aA (by rw[List.take_length])
 go_enter Tryz.func80,Tryz.ntmps80
 go_wp2
 go_loop [9,0] (fun vi vp=>∃(k:Nat),k≤l.length∧vi=.int .i64 k∧vp=.complex .f64 (Fl.fl (Pl.go p (l.take k)).1) (Fl.fl (Pl.go p (l.take k)).2)) (fun vi _=>l.length-(intOf vi).toNat)
 case atStart=>exact⟨0,by omega,rfl,rfl⟩
 case round =>
  obtain⟨k,hk,rfl,rfl⟩:=hrel
  by_cases hlt:k<l.length
  ·obtain⟨g,o,rfl,_,hcl⟩:=hr (by omega)
   have hcell:=hcl k (by omega)
   have hz:=hl.getD k
   have hb:=HB.out k (by omega)
   have hnx:=aA (HN.out k (by omega))
   clear hcl HB HN HE hr hl
   generalize l.getD k 0=z at *
   generalize Pl.go p (l.take k)=q at *
   obtain⟨x,y⟩:=q
   simp only at hb
   have ox:okN x:=by unfold okN;omega
   have oy:okN y:=by unfold okN;omega
   by_cases h10:z=10
   ·subst h10
    have HS:=aA (fun w=>zhc x y w ox oy (by unfold okN;omega))
    clear ox oy hz hb
    go_wp2_with fail
    refine(HS.out _).mono ?_;rintro _ w' ⟨rfl,rfl⟩
    go_wp2
    go_round
    case rel=>exact⟨k+1,by omega,by go_num,by rw[hnx.out];rfl⟩
    case measure=>simp[intOf];omega
   ·have HS:=aA (fun w=>zj9 x y z w ox oy (by unfold okN;omega) (by simpa using h10))
    have HN:=aA h10
    clear ox oy hz hb h10
    go_wp2_with fail
    refine(HS.out _).mono ?_;rintro _ w' ⟨rfl,rfl⟩
    go_wp2
    go_round
    case rel=>exact⟨k+1,by omega,by go_num,by rw[hnx.out];unfold Pl.stp;rw[if_neg HN.out]⟩
    case measure=>simp[intOf];omega
  ·obtain rfl:k=l.length:=by omega
   clear hr hl
   rw[HE.out]
   go_wp2
   go_ret
   exact⟨rfl,rfl⟩
theorem zlH:(Tryz.prog.info? 122).map (fun i=>(i.zero,i.size,i.bytes))=some (some (.agg #[.int .i64 0,.string ⟨#[]⟩,.complex .f64 0 0]),3,40):=by kernel_rfl
def aW (k:Int) (l:List Int):List Int:=if k=1∨k=2 then l else []
def bQ:Obj:=.cells #[.int .i64 0,.string ⟨#[]⟩,.complex .f64 0 0] 122
theorem zg2 (k:Int) (A:Option Addr) (c:Nat) (l:List Int) (X Y:Nat) (w:World) (hr:RdB w w.heap.size A l) (hl:K.Bytes l) :
  Calls Tryz.prog 82 #[.int .i64 k,.slice A l.length c,.complex .f64 X Y] w fun e w'=>e=.returned (.agg #[.int .i64 k,.string (K.str (aW k l)),.complex .f64 X Y])∧Below w.heap.size w w':=by
 have C1:=zaH (hr.alloc (Nat.le_refl _) bQ) hl c
 unfold bQ at C1
 have HB:=aA (fun o=>((Below.refl w.heap.size w).alloc (Nat.le_refl _) o))
 have SC:=fun a w m=>show(store a (.complex .f64 X Y) m).run Tryz.prog w=stored Tryz.prog w a (.complex .f64 X Y) m from run_store _ w a _ m rfl
 by_cases hk:k=1∨k=2
 ·have ht:aW k l=l:=by unfold aW;rw[if_pos hk]
  rw[ht]
  clear ht hl hr
  generalize K.str l=s at *
  rcases hk with rfl|rfl
  all_goals
   go_enter Tryz.func82,Tryz.ntmps82
   go_wp2_with (simp only[C1])
   exact bodyPost_ret (v:=.agg #[.int .i64 _,.string s,.complex .f64 X Y]) (by simp[results,Tryz.results82,go_sem]) rfl ⟨rfl,HB.out _⟩
 ·have ht:aW k l=[]:=by unfold aW;rw[if_neg hk]
  have h1:(k==1)=false:=by simpa using fun h=>hk (Or.inl h)
  have h2:(k==2)=false:=by simpa using fun h=>hk (Or.inr h)
  rw[ht,show K.str []=⟨#[]⟩ from rfl]
  clear ht hl hr hk C1
  go_enter Tryz.func82,Tryz.ntmps82
  go_wp2
  exact bodyPost_ret (v:=.agg #[.int .i64 k,.string ⟨#[]⟩,.complex .f64 X Y]) (by simp[results,Tryz.results82,go_sem]) rfl ⟨rfl,HB.out _⟩
structure Tok where
 k:Int
 t:List Int
 o:Nat
inductive Out where
 | ok:List Tok→Out
 | bad:Nat→Int→Out
def more (acc:List Tok) (k:Nat) (x:T.P3) (l:List Int):List Tok:=if x.1=0 then acc else acc++[⟨x.1,aW x.1 (l.take x.2.1),k⟩]
def zaq (m:Nat) (x:T.P3):Nat:=if x.1=9 then m+1 else m
def zdR:Nat→List Int→Nat→Nat→List Tok→Out
 | 0,_,_,_,acc=>.ok acc
 | f+1,l,k,m,acc=>if l.length=0∨m=2 then .ok acc else if(T.piece l).2.2≠0 then .bad k (T.piece l).2.2 else zdR f (l.drop (T.piece l).2.1) (k+(T.piece l).2.1) (zaq m (T.piece l)) (more acc k (T.piece l) l)
theorem zbt (f:Nat) (l:List Int) (k m:Nat) (acc:List Tok) (h:l.length=0∨m=2):zdR f l k m acc=.ok acc:=by
 cases f with
 | zero=>rfl
 | succ f=>unfold zdR;rw[if_pos h]
theorem zbX (f:Nat) (l:List Int) (k m:Nat) (acc:List Tok) (h:¬(l.length=0∨m=2)) (hb:(T.piece l).2.2≠0):zdR (f+1) l k m acc=.bad k (T.piece l).2.2:=by
 rw[zdR,if_neg h,if_pos hb]
theorem zbB (f:Nat) (l:List Int) (k m:Nat) (acc:List Tok) (h:¬(l.length=0∨m=2)) (hb:(T.piece l).2.2=0):zdR (f+1) l k m acc=zdR f (l.drop (T.piece l).2.1) (k+(T.piece l).2.1) (zaq m (T.piece l)) (more acc k (T.piece l) l):=by
 rw[zdR,if_neg h,if_neg (by simpa using hb)]
def zdV (l:List Int):Out:=zdR (l.length+1) l 0 0 []
def zav (L:List Int) (x:Tok):List Value:=[.int .i64 x.k,.string (K.str x.t),.complex .f64 (Fl.fl (Pl.pos (L.take x.o)).1) (Fl.fl (Pl.pos (L.take x.o)).2)]
theorem zg5 (L:List Int) (xs:List Tok) (i j:Nat) (hi:i<xs.length) (hj:j<3):(xs.flatMap (zav L))[i*3+j]?=(zav L xs[i])[j]?:=by
 induction xs generalizing i with
 | nil=>simp at hi
 | cons x r ih =>
  rw[List.flatMap_cons]
  have hl:(zav L x).length=3:=rfl
  cases i with
  | zero=>rw[List.getElem?_append_left (by omega)];simp
  | succ i =>
   rw[List.getElem?_append_right (by omega),hl,show(i+1)*3+j-3=i*3+j by omega]
   simpa using ih i (by simpa using hi)
def bR (L:List Int) (w:World) (base:Nat) (v:Value) (xs:List Tok):Prop:=w.ownsRow base 122 3 v xs.length (xs.flatMap (zav L))
theorem bR.nil (L:List Int) (w:World) (base:Nat):bR L w base (.slice none 0 0) []:=World.ownsRow_nil w base _ _
theorem bR.alloc {L:List Int} {w:World} {base:Nat} {v:Value} {xs:List Tok} (h:bR L w base v xs) (o:Obj):bR L (w.alloc o) base v xs:=World.ownsRow.alloc h o
theorem bR.drewN {L:List Int} {w:World} {base:Nat} {v:Value} {xs:List Tok} (h:bR L w base v xs) (n:Nat):bR L (w.drewN n) base v xs:=h
theorem bR.below {L:List Int} {w w':World} {base B:Nat} {v:Value} {xs:List Tok} (h:bR L w base v xs) (hb:Below B w w') (hB:w.heap.size≤B):bR L w' base v xs:=by
 refine⟨h.1,?_⟩
 rcases h.2 with h0|⟨g,cap,cur,e,hb1,hg,hr⟩
 ·exact .inl h0
 ·exact .inr ⟨g,cap,cur,e,hb1,(hb.block g (Nat.lt_of_lt_of_le (Array.getElem?_eq_some_iff.1 hg).1 hB)).trans hg,hr⟩
theorem bR.form {L:List Int} {w:World} {base:Nat} {v:Value} {xs:List Tok} (h:bR L w base v xs):∃A c,v=.slice A xs.length c∧xs.length≤c∧c≤maxLen:=by
 rcases h.2 with⟨rfl,h0⟩|⟨g,cap,cur,rfl,hb,hg,hn,hm,hs,ht⟩
 ·exact⟨none,0,by rw[h0],by omega,by unfold maxLen;omega⟩
 ·exact⟨_,cap,rfl,hn,hm⟩
theorem bR.addr {L:List Int} {w:World} {base:Nat} {v:Value} {xs:List Tok} (h:bR L w base v xs) (h0:xs.length≠0):∃g c,v=.slice (some ⟨g,0,none⟩) xs.length c∧xs.length≤c∧c≤maxLen∧base≤g∧g<w.heap.size ∧
  ∀i j u,i<xs.length→j<3→(xs[i]?.map (zav L)).bind (·[j]?)=some u→w.cell? ⟨g,i*3+j,none⟩=some u:=by
 rcases h.2 with⟨_,h1⟩|⟨g,cap,cur,rfl,hb,hg,hn,hm,hs,ht⟩
 ·exact absurd h1 h0
 ·refine⟨g,cap,rfl,hn,hm,hb,(Array.getElem?_eq_some_iff.1 hg).1,fun i j u hi hj hu=>?_⟩
  have hx:xs[i]?=some xs[i]:=List.getElem?_eq_getElem hi
  rw[hx]at hu
  have hc:=World.ownsRow.cells h (g:=g) rfl (i*3+j) u (by rw[zg5 L xs i j hi hj];exact hu)
  rw[Go.WideShapes.add_plain,Nat.zero_add]at hc
  exact hc
theorem zan {L:List Int} {B:Nat} {a w w':World} {v:Value} {xs:List Tok} (h:Below B a w) (ho:bR L w B v xs) (hg:w.grownBy w' v.ownBlock) (hs:B≤w.heap.size):Below B a w' :=
 h.grown hg hs (fun k e=>(World.ownsRow.lt ho k e).1)
theorem zdN {w:World} {ops:Array Oper} {rest:List Oper} {o:Oper} {a:Act} {Q:Exit→Act→World→Prop}
  (hgd:o.guard=none) (s x:Operand) (t:TypeId) (ho:o.op=.call {callee:=.builtin .append,args:=#[s,x],argTypes:=#[t,t]}) (ht:Tryz.prog.underlying t=some (.slice 122))
  (L:List Int) (base:Nat) (v:Value) (xs:List Tok) (hs:a.eval s=v) (hown:bR L w base v xs) (g c:Nat) (y:Tok) (hx:a.eval x=.slice (some ⟨g,0,none⟩) 1 c) (hz:∀j u,(zav L y)[j]?=some u→w.cell? ⟨g,j,none⟩=some u)
  (hlen:xs.length≤1000000) (hbase:base≤w.heap.size)
  (hK:∀v' w',bR L w' base v' (xs++[y])→w.grownBy w' v.ownBlock→wpList Tryz.prog ops Q rest (a.put o.dst v') w') :
  wpList Tryz.prog ops Q (o::rest) a w:=by
 obtain⟨i,hi,hz0,hz1,hz2⟩:=info_parts zlH
 refine wpList_append_own w hgd s x t ho base 122 i _ 3 40 ht hi hz0 hz1 hz2 rfl (by decide) v xs.length (xs.flatMap (zav L)) hs hown ⟨g,0,none⟩ 1 c (zav L y) hx rfl ?_ ?_ (by unfold maxLen;omega) (by omega) hbase fun v' w' h1 h2 _=>hK v' w' ?_ h2
 ·intro j u hj
  rw[Go.WideShapes.add_plain,Nat.zero_add]
  exact hz j u hj
 ·intro u hu;simp[zav]at hu;rcases hu with rfl|rfl|rfl <;> rfl
 ·unfold bR
  rw[List.length_append,List.flatMap_append,List.flatMap_singleton];exact h1
end Go.Proofs.YtkfelkpilaipnaaGreatDoor
namespace Go.Proofs.YtkfelkpilaipnaaGreatDoor
set_option maxRecDepth 100000
set_option maxHeartbeats 40000000
namespace Y
inductive Res (α:Type) where
 | ok:α→List Tok→Res α
 | bad:Option Tok→Res α
def Res.bind {α β:Type} (r:Res α) (f:α→List Tok→Res β):Res β:=match r with | .ok a l=>f a l | .bad p=>.bad p
theorem bind_ok {α β:Type} (a:α) (l:List Tok) (f:α→List Tok→Res β):(Res.ok a l).bind f=f a l:=rfl
theorem bind_bad {α β:Type} (p:Option Tok) (f:α→List Tok→Res β):(Res.bad p:Res α).bind f=.bad p:=rfl
structure Dcl where
 k:Int
 ns:List Tok
structure Prd where
 l:Tok
 r:List Tok
 p:Option Tok
def is (ks:List Int):List Tok→Bool
 | []=>false
 | t::_=>ks.contains t.k
def take (ks:List Int):List Tok→Res Tok
 | []=>.bad none
 | t::r=>if ks.contains t.k then .ok t r else .bad (some t)
def isRef (t:Tok):Bool:=[(1:Int),2].contains t.k
def decl (ts:List Tok):Res Dcl:=(take [3,4,5,6,7] ts).bind fun t r=>if t.k=7 then(take [1] r).bind fun n r=>.ok ⟨7,[n]⟩ r else(take [1,2] r).bind fun n r=>.ok ⟨t.k,n::r.takeWhile isRef⟩ (r.dropWhile isRef)
def decls:Nat→List Dcl→List Tok→Res (List Dcl)
 | 0,acc,ts=>.ok acc ts
 | f+1,acc,ts=>if is [9] ts then .ok acc ts else(decl ts).bind fun d r=>decls f (acc++[d]) r
def rule2 (left:Tok) (rs r:List Tok):Res Prd:=if is [8] r then(take [8] r).bind fun _ r=>(take [1,2] r).bind fun p r=>.ok ⟨left,rs,some p⟩ r else .ok ⟨left,rs,none⟩ r
def rule (left:Tok) (ts:List Tok):Res Prd:=rule2 left (ts.takeWhile isRef) (ts.dropWhile isRef)
def alts:Nat→Tok→List Prd→List Tok→Res (List Prd)
 | 0,_,acc,ts=>.ok acc ts
 | f+1,left,acc,ts=>(rule left ts).bind fun p r=>(take [11,12] r).bind fun t r=>if t.k=11 then alts f left (acc++[p]) r else .ok (acc++[p]) r
def group (acc:List Prd) (ts:List Tok):Res (List Prd):=(take [1] ts).bind fun left r=>(take [10] r).bind fun _ r=>alts (r.length+1) left acc r
def groups:Nat→List Prd→List Tok→Res (List Prd)
 | 0,acc,ts=>.ok acc ts
 | f+1,acc,ts=>if ts.length≠0∧is [9] ts=false then(group acc ts).bind fun ps r=>groups f ps r else .ok acc ts
def tail2 (ts:List Tok):Res Unit:=if ts.length=0 then .ok () ts else(take [] ts).bind fun _ r=>.ok () r
def tail (ts:List Tok):Res Unit:=if is [9] ts then(take [9] ts).bind fun _ r=>tail2 r else tail2 ts
def source (ts:List Tok):Res (List Dcl×List Prd):=(decls (ts.length+1) [] ts).bind fun ds r=>(take [9] r).bind fun _ r=>(group [] r).bind fun ps r=>(groups (r.length+1) ps r).bind fun ps r=>(tail r).bind fun _ r=>.ok (ds,ps) r
theorem take_cons (ks:List Int) (x:Tok) (xs:List Tok):take ks (x::xs)=if ks.contains x.k then .ok x xs else .bad (some x):=rfl
theorem take_ok {ks:List Int} {ts:List Tok} {t:Tok} {r:List Tok} (h:take ks ts=.ok t r):ts=t::r∧ks.contains t.k=true:=by
 cases ts with
 | nil=>cases h
 | cons x xs =>
  rw[take_cons]at h
  by_cases hx:ks.contains x.k=true
  ·rw[if_pos hx]at h;injection h with h1 h2;subst h1 h2;exact⟨rfl,hx⟩
  ·rw[if_neg hx]at h;cases h
theorem is_true {ks:List Int} {ts:List Tok} (h:is ks ts=true):∃t r,ts=t::r∧take ks ts=.ok t r∧ks.contains t.k=true:=by
 cases ts with
 | nil=>cases h
 | cons x xs=>exact⟨x,xs,rfl,by rw[take_cons,if_pos (show ks.contains x.k=true from h)],h⟩
theorem refs_end {ts:List Tok} (h:is [1,2] ts=false):ts.takeWhile isRef=[]∧ts.dropWhile isRef=ts:=by
 cases ts with
 | nil=>exact⟨rfl,rfl⟩
 | cons t r =>
  have h':isRef t=false:=h
  rw[List.takeWhile_cons,List.dropWhile_cons,h']
  exact⟨rfl,rfl⟩
theorem bind_eq_ok {α β:Type} {x:Res α} {f:α→List Tok→Res β} {b:β} {r:List Tok} (h:x.bind f=.ok b r):∃a m,x=.ok a m∧f a m=.ok b r:=by
 cases x with
 | ok a m=>exact⟨a,m,rfl,h⟩
 | bad p=>cases h
def Dcl.refs (d:Dcl):List Tok:=d.ns
def Prd.refs (p:Prd):List Tok:=p.r++p.p.toList
def prefs:Option Nat→List Prd→List Tok
 | _,[]=>[]
 | q,p::ps=>(if q=some p.l.o then [] else [p.l])++p.refs++prefs (some p.l.o) ps
def listed (ds:List Dcl) (ps:List Prd):List Tok:=ds.flatMap Dcl.refs++prefs none ps
end Y
end Go.Proofs.YtkfelkpilaipnaaGreatDoor
namespace Go.Proofs.YtkfelkpilaipnaaGreatDoor
set_option maxRecDepth 100000
set_option maxHeartbeats 40000000
open Go.RowKit Go.ChangeShapes Go.WideShapes Go.ChangeAt
def RdI (w:World) (B:Nat) (A:Option Addr) (zs:List Int):Prop :=
 zs.length≠0→∃g o,A=some ⟨g,o,none⟩∧g<B∧∀j,j<zs.length→w.cell? ⟨g,o+j,none⟩=some (.int .i64 (zs.getD j 0))
theorem RdI.nil (w:World) (B:Nat) (A:Option Addr):RdI w B A []:=fun h=>absurd rfl h
theorem RdI.keep {w w':World} {B:Nat} {A:Option Addr} {zs:List Int} (h:RdI w B A zs) (hk:∀g o,g<B→w'.cell? ⟨g,o,none⟩=w.cell? ⟨g,o,none⟩):RdI w' B A zs:=fun hn=>by
 obtain⟨g,o,e,hg,hc⟩:=h hn
 exact⟨g,o,e,hg,fun j hj=>(hk _ _ hg).trans (hc j hj)⟩
theorem RdI.more {w:World} {B B':Nat} {A:Option Addr} {zs:List Int} (h:RdI w B A zs) (hB:B≤B'):RdI w B' A zs:=fun hn=>by
 obtain⟨g,o,e,hg,hc⟩:=h hn
 exact⟨g,o,e,by omega,hc⟩
theorem RdI.below {w w':World} {B B':Nat} {A:Option Addr} {zs:List Int} (h:RdI w B A zs) (hb:Below B' w w') (hB:B≤B'):RdI w' B A zs :=
 h.keep fun g o hg=>hb.cell (p:=⟨g,o,none⟩) (Nat.lt_of_lt_of_le hg hB)
theorem RdI.up {w w':World} {A:Option Addr} {zs:List Int} (h:RdI w w.heap.size A zs) (hb:Below w.heap.size w w'):RdI w' w'.heap.size A zs:=(h.below hb (Nat.le_refl _)).more hb.size
theorem RdI.drewN {w:World} {B:Nat} {A:Option Addr} {zs:List Int} (h:RdI w B A zs) (n:Nat):RdI (w.drewN n) B A zs:=h
theorem RdI.drew {w:World} {B:Nat} {A:Option Addr} {zs:List Int} (h:RdI w B A zs):RdI w.drew B A zs:=h
theorem RdI.alloc {w:World} {B:Nat} {A:Option Addr} {zs:List Int} (h:RdI w B A zs) (hB:B≤w.heap.size) (o:Obj):RdI (w.alloc o) B A zs :=
 h.keep fun g i hg=>World.cell?_alloc_lt w o ⟨g,i,none⟩ (Nat.lt_of_lt_of_le hg hB)
theorem RdI.grown {w w':World} {B:Nat} {A:Option Addr} {zs:List Int} {g:Nat} (h:RdI w B A zs) (hg:w.grownBy w' (some g)) (hB:B≤g) (hs:B≤w.heap.size):RdI w' B A zs :=
 h.keep fun p o hp=>World.cell?_of_block (hg.block p (by omega) (fun e=>by injection e with e;omega))
theorem RdI.take {w:World} {B:Nat} {A:Option Addr} {zs:List Int} (h:RdI w B A zs) (k:Nat):RdI w B A (zs.take k):=fun hn=>by
 have hl:(zs.take k).length≤zs.length:=by rw[List.length_take];omega
 obtain⟨g,o,e,hg,hc⟩:=h (by omega)
 refine⟨g,o,e,hg,fun j hj=>?_⟩
 rw[hc j (by omega),L.gd_lt hj,L.gd_lt (by omega:j<zs.length),List.getElem_take]
theorem RdI.cell {w:World} {B:Nat} {zs:List Int} {g o:Nat} (h:RdI w B (some ⟨g,o,none⟩) zs) (j:Nat) (hj:j<zs.length):w.cell? ⟨g,o+j,none⟩=some (.int .i64 (zs.getD j 0)):=by
 obtain⟨g',o',e,_,hc⟩:=h (by omega)
 injection e with e;injection e with e1 e2
 subst e1 e2
 exact hc j hj
def UBI (w:World) (g:Nat) (ls:List Int):Prop:=w.heap[g]?=some (.cells (ls.map (Value.int .i64)).toArray 3 (0,0))
theorem UBI.lt {w:World} {g:Nat} {ls:List Int} (h:UBI w g ls):g<w.heap.size:=by
 rcases Nat.lt_or_ge g w.heap.size with hlt|hge
 ·exact hlt
 ·unfold UBI at h;rw[Array.getElem?_eq_none hge]at h;cases h
theorem UBI.cell {w:World} {g:Nat} {ls:List Int} (h:UBI w g ls) (i:Nat) (hi:i<ls.length):w.cell? ⟨g,i,none⟩=some (.int .i64 (ls.getD i 0)):=by
 rw[cell_of_row w g i _ _ _ h];simp[hi,List.getD]
theorem UBI.frozen {w:World} {g:Nat} {ls:List Int} (h:UBI w g ls) (i:Nat):w.frozen? ⟨g,i,none⟩=false:=frozen_of_row w g i _ _ h
theorem UBI.new (w:World) (ls:List Int):UBI (w.alloc (.cells (ls.map (Value.int .i64)).toArray 3)) w.heap.size ls:=heap_alloc_new w _
theorem UBI.drewN {w:World} {g:Nat} {ls:List Int} (h:UBI w g ls) (n:Nat):UBI (w.drewN n) g ls:=h
theorem UBI.drew {w:World} {g:Nat} {ls:List Int} (h:UBI w g ls):UBI w.drew g ls:=h
theorem UBI.alloc {w:World} {g:Nat} {ls:List Int} (h:UBI w g ls) (o:Obj):UBI (w.alloc o) g ls:=(Below.heap_alloc w o g h.lt).trans h
theorem UBI.far {w:World} {g:Nat} {ls:List Int} (h:UBI w g ls) {p:Addr} (hp:g≠p.block) (u:Value):UBI (w.setCell p u) g ls:=(Below.heap_setCell w p u g hp).trans h
theorem UBI.below {w w':World} {g B:Nat} {ls:List Int} (h:UBI w g ls) (hb:Below B w w') (hg:g<B):UBI w' g ls:=(hb.block g hg).trans h
theorem UBI.grown {w w':World} {g:Nat} {ls:List Int} {row:Option Nat} (h:UBI w g ls) (hb:w.grownBy w' row) (hg:some g≠row):UBI w' g ls:=(hb.block g h.lt hg).trans h
theorem UBI.rd {w:World} {g:Nat} {ls:List Int} (h:UBI w g ls) (o n:Nat) (hn:o+n≤ls.length) {B:Nat} (hB:g<B):RdI w B (some ⟨g,o,none⟩) ((ls.drop o).take n):=fun _=>by
 refine⟨g,o,rfl,hB,fun j hj=>?_⟩
 have hj':j<n:=by rw[List.length_take]at hj;omega
 rw[h.cell (o+j) (by omega),L.gd_lt hj,L.gd_lt (by omega:o+j<ls.length),List.getElem_take,List.getElem_drop]
theorem UBI.rd0 {w:World} {g:Nat} {ls:List Int} (h:UBI w g ls) {B:Nat} (hB:g<B):RdI w B (some ⟨g,0,none⟩) ls:=by
 have:=h.rd 0 ls.length (by omega) hB;simpa using this
theorem zk9:(Tryz.prog.info? 3).map (fun i=>(i.zero,i.size,i.bytes))=some (some (.int .i64 0),1,8):=by kernel_rfl
def zbd (ls:List Int):Obj:=.cells (ls.map (Value.int .i64)).toArray 3
theorem zlE (w:World) (b:List Int):RdI (w.alloc (zbd b)) (w.alloc (zbd b)).heap.size (some ⟨w.heap.size,0,none⟩) b∧Below w.heap.size w (w.alloc (zbd b)) :=
 ⟨(UBI.new w b).rd0 (by simp),(Below.refl _ _).alloc (Nat.le_refl _) _⟩
def bE (w:World) (base:Nat) (v:Value) (xs:List Int):Prop:=w.ownsRow base 3 1 v xs.length (xs.map (Value.int .i64))
theorem bE.nil (w:World) (base:Nat):bE w base (.slice none 0 0) []:=World.ownsRow_nil w base _ _
theorem bE.alloc {w:World} {base:Nat} {v:Value} {xs:List Int} (h:bE w base v xs) (o:Obj):bE (w.alloc o) base v xs:=World.ownsRow.alloc h o
theorem bE.drewN {w:World} {base:Nat} {v:Value} {xs:List Int} (h:bE w base v xs) (n:Nat):bE (w.drewN n) base v xs:=h
theorem bE.below {w w':World} {base B:Nat} {v:Value} {xs:List Int} (h:bE w base v xs) (hb:Below B w w') (hB:w.heap.size≤B):bE w' base v xs:=by
 refine⟨h.1,?_⟩
 rcases h.2 with h0|⟨g,cap,cur,e,hb1,hg,hr⟩
 ·exact .inl h0
 ·exact .inr ⟨g,cap,cur,e,hb1,(hb.block g (Nat.lt_of_lt_of_le (Array.getElem?_eq_some_iff.1 hg).1 hB)).trans hg,hr⟩
theorem bE.form {w:World} {base:Nat} {v:Value} {xs:List Int} (h:bE w base v xs):∃A c,v=.slice A xs.length c∧xs.length≤c∧c≤maxLen∧RdI w w.heap.size A xs:=by
 rcases h.2 with⟨rfl,h0⟩|⟨g,cap,cur,rfl,hb,hg,hn,hm,hs,ht⟩
 ·exact⟨none,0,by rw[h0],by omega,by unfold maxLen;omega,fun hc=>absurd h0 hc⟩
 ·refine⟨some ⟨g,0,none⟩,cap,rfl,hn,hm,fun _=>⟨g,0,rfl,?_,fun j hj=>?_⟩⟩
  ·exact(Array.getElem?_eq_some_iff.1 hg).1
  ·have hc:=World.ownsRow.cells h (g:=g) rfl j (.int .i64 (xs.getD j 0)) (by simp[hj,List.getD])
   have e:((⟨g,0,none⟩:Addr).add j)=⟨g,0+j,none⟩:=by unfold Addr.add;by_cases h0:j=0 <;> simp[h0]
   rw[e]at hc;exact hc
theorem bE.mono {w:World} {base base':Nat} {v:Value} {xs:List Int} (h:bE w base v xs) (hb:base'≤base):bE w base' v xs:=by
 refine⟨h.1,?_⟩
 rcases h.2 with h0|⟨g,cap,cur,e,hb1,hr⟩
 ·exact .inl h0
 ·exact .inr ⟨g,cap,cur,e,by omega,hr⟩
theorem bE.addr {w:World} {base:Nat} {v:Value} {xs:List Int} (h:bE w base v xs) (h0:xs.length≠0):∃g c,v=.slice (some ⟨g,0,none⟩) xs.length c∧xs.length≤c∧c≤maxLen∧base≤g:=by
 rcases h.2 with⟨_,h1⟩|⟨g,cap,cur,rfl,hb,hg,hn,hm,hs,ht⟩
 ·exact absurd h1 h0
 ·exact⟨g,cap,rfl,hn,hm,hb⟩
theorem bE.cellAt {w:World} {base g n c:Nat} {xs:List Int} (h:bE w base (.slice (some ⟨g,0,none⟩) n c) xs) (hn:n=xs.length) (j:Nat) (hj:j<xs.length):w.cell? ⟨g,j,none⟩=some (.int .i64 (xs.getD j 0)):=by
 subst hn
 rw[World.ownsRow.cellAt h j (by omega)]
 simp[hj,List.getD]
theorem bE.stored {w:World} {base g n c:Nat} {xs:List Int} (h:bE w base (.slice (some ⟨g,0,none⟩) n c) xs) (hn:n=xs.length) (j:Nat) (z:Int):bE (w.setCell ⟨g,j,none⟩ (.int .i64 z)) base (.slice (some ⟨g,0,none⟩) n c) (xs.set j z):=by
 subst hn
 have:=(World.ownsRow.stored h j (.int .i64 z)).1
 unfold bE
 rw[List.length_set,List.map_set];exact this
theorem zbO {w:World} {ops:Array Oper} {rest:List Oper} {o:Oper} {a:Act} {Q:Exit→Act→World→Prop}
  (hgd:o.guard=none) (s x:Operand) (t:TypeId) (ho:o.op=.call {callee:=.builtin .append,args:=#[s,x],argTypes:=#[t,t]}) (ht:Tryz.prog.underlying t=some (.slice 3))
  (base:Nat) (v:Value) (xs:List Int) (hs:a.eval s=v) (hown:bE w base v xs) (g c:Nat) (z:Int) (hx:a.eval x=.slice (some ⟨g,0,none⟩) 1 c) (hz:w.cell? ⟨g,0,none⟩=some (.int .i64 z))
  (hlen:xs.length≤1000000000000) (hbase:base≤w.heap.size)
  (hK:∀v' w',bE w' base v' (xs++[z])→w.grownBy w' v.ownBlock→wpList Tryz.prog ops Q rest (a.put o.dst v') w') :
  wpList Tryz.prog ops Q (o::rest) a w:=by
 obtain⟨i,hi,hz0,hz1,hz2⟩:=info_parts zk9
 refine wpList_append_own w hgd s x t ho base 3 i (.int .i64 0) 1 8 ht hi hz0 hz1 hz2 rfl (by decide) v xs.length (xs.map (Value.int .i64)) hs hown ⟨g,0,none⟩ 1 c [.int .i64 z] hx rfl ?_ ?_ (by unfold maxLen;omega) (by omega) hbase fun v' w' h1 h2 _=>hK v' w' ?_ h2
 ·intro j u hj
  match j,hj with
  | 0,hj=>simp at hj;subst hj;simpa[Addr.add] using hz
  | j+1,hj=>simp at hj
 ·intro u hu;simp at hu;subst hu;rfl
 ·unfold bE
  rw[List.length_append,List.map_append];exact h1
theorem zjy {w:World} {ops:Array Oper} {rest:List Oper} {o:Oper} {a:Act} {Q:Exit→Act→World→Prop}
  (hgd:o.guard=none) (s x:Operand) (t:TypeId) (ho:o.op=.call {callee:=.builtin .append,args:=#[s,x],argTypes:=#[t,t]}) (ht:Tryz.prog.underlying t=some (.slice 3))
  (base:Nat) (v:Value) (xs:List Int) (hs:a.eval s=v) (hown:bE w base v xs) (B m c:Nat) (A:Option Addr) (zs:List Int) (hx:a.eval x=.slice A m c) (hm:m=zs.length) (hr:RdI w B A zs)
  (hlen:xs.length+zs.length≤1000000000000) (hbase:base≤w.heap.size)
  (hK:∀v' w',bE w' base v' (xs++zs)→w.grownBy w' v.ownBlock→wpList Tryz.prog ops Q rest (a.put o.dst v') w') :
  wpList Tryz.prog ops Q (o::rest) a w:=by
 obtain⟨i,hi,hz0,hz1,hz2⟩:=info_parts zk9
 subst hm
 rcases A with _|ad
 ·have hz:zs=[]:=by
   rcases Nat.eq_zero_or_pos zs.length with h0|h0
   ·exact List.eq_nil_of_length_eq_zero h0
   ·obtain⟨g,o',h,_⟩:=hr (by omega);cases h
  subst hz
  have hrun:=zam (P:=Tryz.prog) w base t o.type 3 i 1 ht hi v xs.length _ hown c
  refine wpList_plain hgd fun K hK'=>?_
  unfold Oper.wp
  simp[execOp,ho,resolve,invoke,builtin,hs,hx,hrun,Result.andThen]
  exact hK' _ _ (hK v w (by simpa using hown) (World.grownBy.refl _ _))
 ·refine wpList_append_own w hgd s x t ho base 3 i (.int .i64 0) 1 8 ht hi hz0 hz1 hz2 rfl (by decide) v xs.length (xs.map (Value.int .i64)) hs hown ad zs.length c (zs.map (Value.int .i64)) hx (by simp) ?_ ?_ (by unfold maxLen;omega) (by omega) hbase fun v' w' h1 h2 _=>hK v' w' ?_ h2
  ·intro j u hj
   have hjl:j<zs.length:=by have:=(List.getElem?_eq_some_iff.1 hj).1;simpa using this
   obtain⟨g,o',h,_,hc⟩:=hr (by omega)
   replace h:=Option.some.inj h
   subst h
   have e:((⟨g,o',none⟩:Addr).add j)=⟨g,o'+j,none⟩:=by unfold Addr.add;by_cases h0:j=0 <;> simp[h0]
   rw[e,hc j hjl]
   rw[List.getElem?_map,List.getElem?_eq_getElem hjl]at hj
   rw[L.gd_lt hjl];simpa using hj
  ·intro u hu;obtain⟨z,_,rfl⟩:=List.mem_map.1 hu;rfl
  ·unfold bE
   rw[List.length_append,List.map_append];exact h1
theorem zc2 (w:World):bE (w.alloc (.cells #[] 3)) w.heap.size (.slice (some ⟨w.heap.size,0,none⟩) 0 0) []:=by
 have:=World.ownsRow_made (base:=w.heap.size) (e:=3) (size:=1) w #[] 0 (Nat.le_refl _) (by unfold maxLen;omega) rfl
 exact this
theorem zeJ {B:Nat} {a w w':World} {v:Value} {xs:List Int} (h:Below B a w) (ho:bE w B v xs) (hg:w.grownBy w' v.ownBlock) (hs:B≤w.heap.size):Below B a w' :=
 h.grown hg hs (fun k e=>(World.ownsRow.lt ho k e).1)
end Go.Proofs.YtkfelkpilaipnaaGreatDoor
namespace Go.Proofs.YtkfelkpilaipnaaGreatDoor
set_option maxRecDepth 100000
set_option maxHeartbeats 40000000
open Go.RowKit
def ixI (z:Int):List Int→Int
 | []=>-1
 | x::r=>if z=x then 0 else if ixI z r<0 then -1 else ixI z r+1
theorem zfQ (z x:Int) (r:List Int):ixI z (x::r)=if z=x then 0 else if ixI z r<0 then -1 else ixI z r+1:=rfl
theorem zh3 (z:Int):∀l,-1≤ixI z l
 | []=>by simp[ixI]
 | x::r=>by
  have:=zh3 z r
  unfold ixI
  split
  ·omega
  split <;> omega
theorem zh2 (z:Int):∀l:List Int,decide (0≤ixI z l)=l.contains z
 | []=>by simp[ixI]
 | x::r=>by
  have ih:=zh2 z r
  unfold ixI
  by_cases h:z=x
  ·subst h;simp
  ·rw[if_neg h]
   have e:(x::r).contains z=r.contains z:=by rw[List.contains_cons];simp[h]
   rw[e,←ih]
   split
   ·rename_i h2;rw[decide_eq_false (by omega),decide_eq_false (by omega)]
   ·rename_i h2;rw[decide_eq_true (by omega),decide_eq_true (by omega)]
theorem zia (A:Option Addr) (c B:Nat) (l:List Int) (z:Int) (w:World) (hr:RdI w B A l) (hn:l.length≤1000) :
  Calls Tryz.prog 171 #[.slice A l.length c,.int .i64 z] w fun e w'=>e=.returned (.int .i64 (ixI z l))∧w=w':=by
 have HX:Hid (∀k,(∀j,j<k→l.getD j 0≠z)→k≤l.length→ixI z l=if ixI z (l.drop k)<0 then -1 else ixI z (l.drop k)+k):=aA (by
  intro k
  induction k with
  | zero=>intro _ _;have:=zh3 z l;simp;intro;omega
  | succ k ih =>
   intro h hk
   rw[ih (fun j hj=>h j (by omega)) (by omega),L.cons_drop l k (by omega)]
   have h1:=h k (by omega)
   have h2:=zh3 z (l.drop (k+1))
   rw[zfQ,if_neg (Ne.symm h1)]
   by_cases h3:ixI z (l.drop (k+1))<0
   ·rw[if_pos h3,if_pos h3,if_pos (by omega)]
   ·rw[if_neg h3,if_neg h3,if_neg (by omega)];omega)
 go_enter Tryz.func171,Tryz.ntmps171
 go_wp2
 go_loop [8] (fun vi=>∃(k:Nat),k≤l.length∧vi=.int .i64 k∧∀j,j<k→l.getD j 0≠z) (fun vi=>l.length-(intOf vi).toNat)
 case atStart=>exact⟨0,by omega,rfl,fun j hj=>by omega⟩
 case round =>
  obtain⟨k,hk,rfl,hs⟩:=hrel
  have HS:=aA hs
  clear hs
  by_cases hlt:k<l.length
  ·obtain⟨g,o,rfl,_,hcl⟩:=hr (by omega)
   have hcell:=hcl k hlt
   have HD:=aA (L.cons_drop l k hlt)
   have HXk:=aA (HX.out k HS.out (by omega))
   clear hcl hr HX
   generalize hy:l.getD k 0=y at *
   have HY:=aA hy
   clear hy
   by_cases hz:z=y
   ·have hz':(z==y)=true:=by simpa using hz
    have HZ:=aA hz
    clear hz
    go_wp2
    go_ret
    refine⟨zah ?_,rfl⟩
    rw[HXk.out,HD.out,zfQ,if_pos HZ.out];simp
   ·have hz':(z==y)=false:=by simpa using hz
    have HZ:=aA hz
    clear hz
    go_wp2
    go_round
    case rel =>
     refine⟨k+1,by omega,by go_num,fun j hj=>?_⟩
     by_cases hjk:j=k
     ·subst hjk;rw[HY.out];exact Ne.symm HZ.out
     ·exact HS.out j (by omega)
    case measure=>simp[intOf];omega
  ·obtain rfl:k=l.length:=by omega
   go_wp2
   go_ret
   refine⟨zah ?_,rfl⟩
   rw[HX.out _ HS.out (Nat.le_refl _),List.drop_length];simp[ixI]
theorem zeH (A:Option Addr) (c B:Nat) (l:List Int) (z:Int) (w:World) (hr:RdI w B A l) (hn:l.length≤1000) :
  Calls Tryz.prog 153 #[.slice A l.length c,.int .i64 z] w fun e w'=>e=.returned (.bool (l.contains z))∧w=w':=by
 have P:=aA (fun w (h:RdI w B A l)=>zia A c B l z w h hn)
 have HR:=aA hr
 have HH:=aA (zh2 z l)
 clear hr hn
 generalize ixI z l=i at *
 go_enter Tryz.func153,Tryz.ntmps153
 go_wp2_with fail
 refine(P.out _ HR.out).mono ?_;rintro _ w' ⟨rfl,rfl⟩
 go_wp2
 go_ret
 exact⟨aG HH.out,rfl⟩
theorem zdP (g o j:Nat):((⟨g,o,none⟩:Addr).add j)=⟨g,o+j,none⟩:=by unfold Addr.add;by_cases h0:j=0 <;> simp[h0]
def RdT (L:List Int) (w:World) (B:Nat) (A:Option Addr) (ts:List Tok):Prop :=
 ts.length≠0→∃g o,A=some ⟨g,o,none⟩∧g<B∧∀i j u,(hi:i<ts.length)→(zav L ts[i])[j]?=some u→w.cell? ⟨g,o+(i*3+j),none⟩=some u
theorem RdT.nil (L:List Int) (w:World) (B:Nat) (A:Option Addr):RdT L w B A []:=fun h=>absurd rfl h
theorem RdT.keep {L:List Int} {w w':World} {B:Nat} {A:Option Addr} {ts:List Tok} (h:RdT L w B A ts) (hk:∀g o,g<B→w'.cell? ⟨g,o,none⟩=w.cell? ⟨g,o,none⟩):RdT L w' B A ts:=fun hn=>by
 obtain⟨g,o,e,hg,hc⟩:=h hn
 exact⟨g,o,e,hg,fun i j u hi hu=>(hk _ _ hg).trans (hc i j u hi hu)⟩
theorem RdT.more {L:List Int} {w:World} {B B':Nat} {A:Option Addr} {ts:List Tok} (h:RdT L w B A ts) (hB:B≤B'):RdT L w B' A ts:=fun hn=>by
 obtain⟨g,o,e,hg,hc⟩:=h hn
 exact⟨g,o,e,by omega,hc⟩
theorem RdT.grown {L:List Int} {w w':World} {B:Nat} {A:Option Addr} {ts:List Tok} {row:Option Nat} (h:RdT L w B A ts) (hg:w.grownBy w' row) (hr:∀k,row=some k→B≤k) (hs:B≤w.heap.size):RdT L w' B A ts :=
 h.keep fun p o hp=>World.cell?_of_block (hg.block p (by omega) (fun e=>by have:=hr p e.symm;omega))
theorem RdT.below {L:List Int} {w w':World} {B B':Nat} {A:Option Addr} {ts:List Tok} (h:RdT L w B A ts) (hb:Below B' w w') (hB:B≤B'):RdT L w' B A ts :=
 h.keep fun g o hg=>hb.cell (p:=⟨g,o,none⟩) (Nat.lt_of_lt_of_le hg hB)
theorem bR.rd {L:List Int} {w:World} {base:Nat} {v:Value} {xs:List Tok} (h:bR L w base v xs):∃A c,v=.slice A xs.length c∧xs.length≤c∧c≤maxLen∧RdT L w w.heap.size A xs:=by
 obtain⟨A,c,rfl,h1,h2⟩:=h.form
 refine⟨A,c,rfl,h1,h2,fun h0=>?_⟩
 obtain⟨g,c',e,_,_,_,hg,hcell⟩:=h.addr h0
 injection e with e1 e2 e3
 refine⟨g,0,e1,hg,fun i j u hi hu=>?_⟩
 have hj:j<3:=by
  have:=(List.getElem?_eq_some_iff.1 hu).1
  simpa[zav] using this
 rw[Nat.zero_add]
 exact hcell i j u hi hj (by rw[List.getElem?_eq_getElem hi];exact hu)
def zgr (A:Option Addr) (c:Nat):Option Addr:=if c=1 then A else A.map fun x=>x.add 3
theorem RdT.tail {L:List Int} {w:World} {B c:Nat} {A:Option Addr} {t:Tok} {ts:List Tok} (h:RdT L w B A (t::ts)) (hc:(t::ts).length≤c):RdT L w B (zgr A c) ts:=by
 intro hn
 obtain⟨g,o,rfl,hg,hcl⟩:=h (by simp)
 refine⟨g,o+3,?_,hg,fun i j u hi hu=>?_⟩
 ·unfold zgr
  rw[if_neg (by simp at hc;omega),Option.map_some,zdP]
 ·have:=hcl (i+1) j u (by simp;omega) (by simpa using hu)
  rwa [show o+3+(i*3+j)=o+((i+1)*3+j) by omega]
def bB (L:List Int) (x:Tok):List Value:=[.string (K.str x.t),.complex .f64 (Fl.fl (Pl.pos (L.take x.o)).1) (Fl.fl (Pl.pos (L.take x.o)).2)]
theorem zcZ (L:List Int) (xs:List Tok):(xs.flatMap (bB L)).length=xs.length*2:=by
 induction xs with
 | nil=>rfl
 | cons x r ih=>simp[List.flatMap_cons,ih,bB];omega
theorem zhy (L:List Int) (xs:List Tok) (i j:Nat) (hi:i<xs.length) (hj:j<2):(xs.flatMap (bB L))[i*2+j]?=(bB L xs[i])[j]?:=by
 induction xs generalizing i with
 | nil=>simp at hi
 | cons x r ih =>
  rw[List.flatMap_cons]
  have hl:(bB L x).length=2:=rfl
  cases i with
  | zero=>rw[List.getElem?_append_left (by omega)];simp
  | succ i =>
   rw[List.getElem?_append_right (by omega),hl,show(i+1)*2+j-2=i*2+j by omega]
   simpa using ih i (by simpa using hi)
def RdR (L:List Int) (w:World) (B:Nat) (A:Option Addr) (xs:List Tok):Prop :=
 xs.length≠0→∃(g:Nat) (cur:Array Value),A=some ⟨g,0,none⟩∧B≤g∧w.heap[g]?=some (.cells cur 90 (0,0))∧∀(j:Nat) (u:Value),(xs.flatMap (bB L))[j]?=some u→cur[j]?=some u
theorem RdR.nil (L:List Int) (w:World) (B:Nat) (A:Option Addr):RdR L w B A []:=fun h=>absurd rfl h
def bA (w:World) (row:Option Nat):Prop:=∀k,row=some k→∀cur,w.heap[k]? ≠ some (.cells cur 90 (0,0))
theorem bA.none (w:World):bA w .none:=fun _ h=>by cases h
theorem RdR.grown {L:List Int} {w w':World} {B:Nat} {A:Option Addr} {xs:List Tok} {row:Option Nat} (h:RdR L w B A xs) (hg:w.grownBy w' row) (hr:bA w row):RdR L w' B A xs:=fun hn=>by
 obtain⟨g,cur,e,hB,hh,hc⟩:=h hn
 exact⟨g,cur,e,hB,(hg.block g (Array.getElem?_eq_some_iff.1 hh).1 (fun e=>hr g e.symm cur hh)).trans hh,hc⟩
theorem RdR.less {L:List Int} {w:World} {B B':Nat} {A:Option Addr} {xs:List Tok} (h:RdR L w B A xs) (hB:B'≤B):RdR L w B' A xs:=fun hn=>by
 obtain⟨g,cur,e,hb,hh⟩:=h hn
 exact⟨g,cur,e,by omega,hh⟩
theorem RdR.below {L:List Int} {w w':World} {B:Nat} {A:Option Addr} {xs:List Tok} (h:RdR L w B A xs) (hb:Below w.heap.size w w'):RdR L w' B A xs:=h.grown (aQ hb .none) (bA.none w)
theorem RdR.cell {L:List Int} {w:World} {B:Nat} {A:Option Addr} {xs:List Tok} (h:RdR L w B A xs) (h0:xs.length≠0):∃g,A=some ⟨g,0,none⟩∧B≤g∧∀i j u,(hi:i<xs.length)→j<2→(bB L xs[i])[j]?=some u→w.cell? ⟨g,i*2+j,none⟩=some u:=by
 obtain⟨g,cur,e,hB,hh,hc⟩:=h h0
 refine⟨g,e,hB,fun i j u hi hj hu=>?_⟩
 rw[cell_of_row w g _ _ _ _ hh]
 exact hc _ _ (by rw[zhy L xs i j hi hj];exact hu)
def bN (L:List Int) (w:World) (base:Nat) (v:Value) (xs:List Tok):Prop:=w.ownsRow base 90 2 v xs.length (xs.flatMap (bB L))
theorem bN.nil (L:List Int) (w:World) (base:Nat):bN L w base (.slice none 0 0) []:=World.ownsRow_nil w base _ _
theorem bN.alloc {L:List Int} {w:World} {base:Nat} {v:Value} {xs:List Tok} (h:bN L w base v xs) (o:Obj):bN L (w.alloc o) base v xs:=World.ownsRow.alloc h o
theorem bN.grown {L:List Int} {w w':World} {base:Nat} {v:Value} {xs:List Tok} {row:Option Nat} (h:bN L w base v xs) (hg:w.grownBy w' row) (hr:bA w row):bN L w' base v xs:=by
 refine⟨h.1,?_⟩
 rcases h.2 with h0|⟨g,cap,cur,e,hb1,hh,hrr⟩
 ·exact .inl h0
 ·exact .inr ⟨g,cap,cur,e,hb1,(hg.block g (Array.getElem?_eq_some_iff.1 hh).1 (fun e=>hr g e.symm cur hh)).trans hh,hrr⟩
theorem bN.below {L:List Int} {w w':World} {base:Nat} {v:Value} {xs:List Tok} (h:bN L w base v xs) (hb:Below w.heap.size w w'):bN L w' base v xs:=h.grown (aQ hb .none) (bA.none w)
theorem bN.rd {L:List Int} {w:World} {base:Nat} {v:Value} {xs:List Tok} (h:bN L w base v xs):∃A c,v=.slice A xs.length c∧xs.length≤c∧c≤maxLen∧RdR L w base A xs:=by
 rcases h.2 with⟨rfl,h0⟩|⟨g,cap,cur,rfl,hb,hg,hn,hm,hs,ht⟩
 ·exact⟨none,0,by rw[h0],by omega,by unfold maxLen;omega,fun hc=>absurd h0 hc⟩
 ·refine⟨some ⟨g,0,none⟩,cap,rfl,hn,hm,fun _=>⟨g,cur,rfl,hb,hg,fun j u hu=>?_⟩⟩
  rw[←ht]at hu
  have hj:=(List.getElem?_eq_some_iff.1 hu).1
  rw[List.length_take]at hj
  rw[List.getElem?_take_of_lt (by omega)]at hu
  simpa using hu
theorem zk8:(Tryz.prog.info? 90).map (fun i=>(i.zero,i.size,i.bytes))=some (some (.agg #[.string ⟨#[]⟩,.complex .f64 0 0]),2,32):=by kernel_rfl
theorem ziy {w:World} {ops:Array Oper} {rest:List Oper} {o:Oper} {a:Act} {Q:Exit→Act→World→Prop}
  (hgd:o.guard=none) (s x:Operand) (t:TypeId) (ho:o.op=.call {callee:=.builtin .append,args:=#[s,x],argTypes:=#[t,t]}) (ht:Tryz.prog.underlying t=some (.slice 90))
  (L:List Int) (base:Nat) (v:Value) (xs:List Tok) (hs:a.eval s=v) (hown:bN L w base v xs) (g c:Nat) (y:Tok) (hx:a.eval x=.slice (some ⟨g,0,none⟩) 1 c) (hz:∀j u,(bB L y)[j]?=some u→w.cell? ⟨g,j,none⟩=some u)
  (hlen:xs.length≤1000000) (hbase:base≤w.heap.size)
  (hK:∀v' w',bN L w' base v' (xs++[y])→w.grownBy w' v.ownBlock→wpList Tryz.prog ops Q rest (a.put o.dst v') w') :
  wpList Tryz.prog ops Q (o::rest) a w:=by
 obtain⟨i,hi,hz0,hz1,hz2⟩:=info_parts zk8
 refine wpList_append_own w hgd s x t ho base 90 i _ 2 32 ht hi hz0 hz1 hz2 rfl (by decide) v xs.length (xs.flatMap (bB L)) hs hown ⟨g,0,none⟩ 1 c (bB L y) hx rfl ?_ ?_ (by unfold maxLen;omega) (by omega) hbase fun v' w' h1 h2 _=>hK v' w' ?_ h2
 ·intro j u hj
  rw[zdP,Nat.zero_add]
  exact hz j u hj
 ·intro u hu;simp[bB]at hu;rcases hu with rfl|rfl <;> rfl
 ·unfold bN
  rw[List.length_append,List.flatMap_append,List.flatMap_singleton];exact h1
def Rdr (L:List Int) (B R px py:Nat) (w:World) (ts:List Tok):Prop :=
 ∃A c,w.heap[R]?=some (.cells #[.slice A ts.length c,.complex .f64 px py] 128 (0,0))∧ts.length≤c∧ts.length≤4000∧RdT L w B A ts∧B≤R
theorem Rdr.lt {L:List Int} {B R px py:Nat} {w:World} {ts:List Tok} (h:Rdr L B R px py w ts):R<w.heap.size:=by
 obtain⟨A,c,hh,_⟩:=h
 exact(Array.getElem?_eq_some_iff.1 hh).1
theorem Rdr.other {L:List Int} {B R px py:Nat} {w:World} {ts:List Tok} (h:Rdr L B R px py w ts):bA w (some R):=by
 obtain⟨A,c,hh,_⟩:=h
 intro k hk cur he
 injection hk with hk
 subst hk
 rw[hh]at he
 injection he with he
 injection he with _ he
 cases he
theorem Rdr.grown {L:List Int} {B R px py:Nat} {w w':World} {ts:List Tok} {row:Option Nat} (h:Rdr L B R px py w ts) (hg:w.grownBy w' row) (hr:∀k,row=some k→R<k):Rdr L B R px py w' ts:=by
 have hlt:=h.lt
 obtain⟨A,c,hh,h1,h2,h3,h4⟩:=h
 exact⟨A,c,(hg.block R hlt (fun e=>by have:=hr R e.symm;omega)).trans hh,h1,h2,h3.grown hg (fun k e=>by have:=hr k e;omega) (by omega),h4⟩
theorem Rdr.alloc {L:List Int} {B R px py:Nat} {w:World} {ts:List Tok} (h:Rdr L B R px py w ts) (o:Obj):Rdr L B R px py (w.alloc o) ts :=
 h.grown (row:=.none) (aC (World.grownBy.refl _ _) o) (fun _ e=>by cases e)
def zkz (L:List Int) (px py:Nat):Option Tok→PanicEntry
 | none=>{v:=.iface 125 (.agg #[.complex .f64 px py,.int .i64 4]),recovered:=false}
 | some t=>{v:=.iface 125 (.agg #[.complex .f64 (Fl.fl (Pl.pos (L.take t.o)).1) (Fl.fl (Pl.pos (L.take t.o)).2),.int .i64 3]),recovered:=false}
def zfl {α:Type} (L:List Int) (B R px py:Nat) (w:World) (V:α→Value→World→Prop) (res:Y.Res α) (e:Ending) (w':World):Prop :=
 w.grownBy w' (some R)∧match res with
  | .ok a r=>∃v,e=.returned v∧Rdr L B R px py w' r∧V a v w'
  | .bad p=>e=.panicked [zkz L px py p]
theorem _root_.Go.World.grownBy.row {w w':World} (h:w.grownBy w' .none) (row:Option Nat):w.grownBy w' row:=⟨h.os,h.tape,h.output,h.size,fun k hk _=>h.block k hk (by simp)⟩
theorem aS {a w w':World} {row:Option Nat} {e:TypeId} {size n:Nat} {v:Value} {xs:List Value} (h:a.grownBy w row) (ho:w.ownsRow a.heap.size e size v n xs) (hg:w.grownBy w' v.ownBlock):a.grownBy w' row :=
 ⟨hg.os.trans h.os,hg.tape.trans h.tape,hg.output.trans h.output,Nat.le_trans h.size hg.size,fun k hk hne=>(hg.block k (Nat.lt_of_lt_of_le hk h.size) (fun e=>by have:=(World.ownsRow.lt ho k e.symm).1;omega)).trans (h.block k hk hne)⟩
theorem Rdr.own {L:List Int} {B R px py base:Nat} {w w':World} {ts:List Tok} {e:TypeId} {size n:Nat} {v:Value} {xs:List Value} (h:Rdr L B R px py w ts) (ho:w.ownsRow base e size v n xs) (hg:w.grownBy w' v.ownBlock) (hb:R<base):Rdr L B R px py w' ts :=
 h.grown hg (fun k e=>by have:=(World.ownsRow.lt ho k e).1;omega)
theorem zec (L:List Int) (w:World) (t:Tok):∀j u,(bB L t)[j]?=some u→(w.alloc (.cells #[.string (K.str t.t),.complex .f64 (Fl.fl (Pl.pos (L.take t.o)).1) (Fl.fl (Pl.pos (L.take t.o)).2)] 90)).cell? ⟨w.heap.size,j,none⟩=some u:=by
 intro j u hu
 rw[World.cell?_alloc_new]
 simpa[bB] using hu
theorem zbL {w w2:World} {o:Obj} {R:Nat} (h:(w.alloc o).grownBy w2 (some R)) (hR:R<w.heap.size):w2.heap[w.heap.size]?=some o:=by
 rw[h.block w.heap.size (by simp) (fun e=>by injection e with e;omega)]
 exact heap_alloc_new w o
theorem zhg {w w2:World} {o:Obj} {row:Option Nat} (h:(w.alloc o).grownBy w2 row):w.heap.size<w2.heap.size:=Nat.lt_of_lt_of_le (by simp) h.size
theorem aI {a w:World} {row:Option Nat} (h:a.grownBy w row) (g i:Nat) (u:Value) (hg:a.heap.size≤g):a.grownBy (w.setCell ⟨g,i,none⟩ u) row :=
 ⟨h.os,h.tape,h.output,by simpa[World.setCell] using h.size,fun k hk hne=>(Below.heap_setCell w ⟨g,i,none⟩ u k (by simp only;omega)).trans (h.block k hk hne)⟩
theorem Rdr.far {L:List Int} {B R px py:Nat} {w:World} {ts:List Tok} (h:Rdr L B R px py w ts) (g i:Nat) (u:Value) (hg:R<g):Rdr L B R px py (w.setCell ⟨g,i,none⟩ u) ts :=
 h.grown (aD (World.grownBy.refl w (some g)) i u) (fun k e=>by injection e with e;omega)
def zaZ (v:Value):Nat:=match v with | .slice _ n _=>n|_=>0
def zaW (L:List Int) (r:Out) (w:World) (e:Ending) (w':World):Prop :=
 match r with
 | .ok xs=>∃v,e=.returned (.tuple #[v,.complex .f64 (Fl.fl (Pl.pos L).1) (Fl.fl (Pl.pos L).2),.int .i64 0])∧bR L w' w.heap.size v xs∧Below w.heap.size w w'
 | .bad o d=>e=.returned (.tuple #[.slice none 0 0,.complex .f64 (Fl.fl (Pl.pos (L.take o)).1) (Fl.fl (Pl.pos (L.take o)).2),.int .i64 d])∧Below w.heap.size w w'
theorem zaW.good {L:List Int} {xs:List Tok} {w w':World} {v:Value} {q:Int×Int} (hq:q=Pl.pos L) (h:bR L w' w.heap.size v xs) (hb:Below w.heap.size w w'):zaW L (.ok xs) w (.returned (.tuple #[v,.complex .f64 (Fl.fl q.1) (Fl.fl q.2),.int .i64 0])) w':=by
 subst hq;exact⟨v,rfl,h,hb⟩
theorem zaW.wrong {L:List Int} {o:Nat} {d:Int} {w w':World} {q:Int×Int} (hq:q=Pl.pos (L.take o)) (hb:Below w.heap.size w w'):zaW L (.bad o d) w (.returned (.tuple #[.slice none 0 0,.complex .f64 (Fl.fl q.1) (Fl.fl q.2),.int .i64 d])) w':=by
 subst hq;exact⟨rfl,hb⟩
theorem zkr {w:World} {B:Nat} {A:Option Addr} {l:List Int} (h:RdB w B A l) (h0:l.length≠0):A≠none:=by
 obtain⟨g,o,e,_⟩:=h h0
 rw[e];simp
def At (L:List Int) (R:Out) (w:World) (k d f m:Nat) (acc:List Tok) (l:List Int) (p:Int×Int) (A':Option Addr) (c':Nat) (v:Value) (w':World):Prop :=
 L.length=k+d∧l=L.drop k∧p=Pl.pos (L.take k)∧Below w.heap.size w w'∧RdB w' w.heap.size A' l∧bR L w' w.heap.size v acc∧d≤c'∧d<f∧acc.length≤k∧m≤k∧zdR f l k m acc=R
set_option maxRecDepth 100000 in
theorem ziI (A:Option Addr) (c:Nat) (L:List Int) (w:World) (hr:RdB w w.heap.size A L) (hl:K.Bytes L) (hc:L.length≤c) (hn:L.length≤4000) (hm:ML w) :
  Calls Tryz.prog 54 #[.slice A L.length c] w (zaW L (zdV L) w):=by
 have HO:=aA (fun w=>zk1 1 1 w (by unfold okN;omega) (by unfold okN;omega))
 generalize hR:zdV L=R
 have HR:=aA hR
 clear hR
 go_enter Tryz.func54,Tryz.ntmps54
 go_wp2
 refine zae 0 (fun a' w'=>∃(k d f m:Nat) (mi:Int) (acc:List Tok) (l:List Int) (p:Int×Int) (A':Option Addr) (c':Nat) (v:Value),mi=(m:Int)∧At L R w k d f m acc l p A' c' v w'∧∃(u1 u8 u9 u10 u11 u12 u13 u14 u15 u16 u17 u18 u19 u20 u21 u22 u23 u24 u25 u26 u27 u28 u29 u30 u31 u32 u33 u34 u35 u36 u37 u38 u39 u40 u41 u42 u43 u44 u45 u46 u47 u48 u49 u50 u51 u52 u53 u54 u55 u56 u57 u58:Value),a' = {tmps:=#[.slice A' d c',u1,.slice none 0 0,.complex .f64 0 0,.int .i64 0,v,.complex .f64 (Fl.fl p.1) (Fl.fl p.2),.int .i64 mi,u8,u9,u10,u11,u12,u13,u14,u15,u16,u17,u18,u19,u20,u21,u22,u23,u24,u25,u26,u27,u28,u29,u30,u31,u32,u33,u34,u35,u36,u37,u38,u39,u40,u41,u42,u43,u44,u45,u46,u47,u48,u49,u50,u51,u52,u53,u54,u55,u56,u57,u58],defers:=[]}) (fun a' _=>zaZ (a'.tmps.getD 0 undef)) rfl ?_ ?_
 ·rintro a' w' ⟨k,d,f,m,mi,acc,l,p,A',c',v,rfl,hat,u1,u8,u9,u10,u11,u12,u13,u14,u15,u16,u17,u18,u19,u20,u21,u22,u23,u24,u25,u26,u27,u28,u29,u30,u31,u32,u33,u34,u35,u36,u37,u38,u39,u40,u41,u42,u43,u44,u45,u46,u47,u48,u49,u50,u51,u52,u53,u54,u55,u56,u57,u58,rfl⟩
  obtain⟨hLk,hll,hp,hb,hr',ho,hc',hf,hacc,hmk,hs⟩:=hat
  have hmb:m≤4000:=by omega
  have HMK0:=aA hmk
  clear hmk
  have HAT:=aA hs
  have hld:l.length=d:=by rw[hll,List.length_drop];omega
  have hlb:K.Bytes l:=by rw[hll];exact hl.drop k
  have hbd:=Pl.pos_bd L k (by omega)
  rw[←hp]at hbd
  obtain⟨bd1,bd2,bd3,bd4⟩:=hbd
  have HLD:=aA hld
  have HLL:=aA hll
  have HP:=aA hp
  have HB:=aA hb
  have HRR:=aA hr'
  have HOO:=aA ho
  have HM:Hid (ML w'):=aA (hm.up hb)
  have HBH:=aA (fun(n:Nat) (hnl:n≤d) (w1:World) (h1:RdB w1 w.heap.size A' l)=>(by
   have h:=zgN A' c' w.heap.size (l.take n) p bd1 (by omega) bd3 (by omega) w1 (h1.take n) (hlb.take n) (by rw[List.length_take];omega)
   rw[List.length_take,Nat.min_eq_left (by omega),show Pl.go p (l.take n)=Pl.pos (L.take (k+n)) from by rw[hp,hll];exact Pl.go_pos L k n]at h
   exact h:Calls Tryz.prog 80 #[.complex .f64 (Fl.fl p.1) (Fl.fl p.2),.slice A' n c'] w1 fun e w'=>e=.returned (.complex .f64 (Fl.fl (Pl.pos (L.take (k+n))).1) (Fl.fl (Pl.pos (L.take (k+n))).2))∧w1=w'))
  have HLB:=aA hlb
  have HHL:=aA hl
  have HACC:=aA hacc
  clear hs hld hll hp hb hr' ho hm bd1 bd2 bd3 bd4 hlb hr hl HO HR
  by_cases hend:d=0∨m=2
  ·have HE:Hid (R=.ok acc):=aA (by rw[←HAT.out];exact zbt _ _ _ _ _ (by have:=HLD.out;omega))
   have HBa:=aA (HBH.out d (Nat.le_refl _) w' HRR.out)
   have HPL:Hid (Pl.pos (L.take (k+d))=Pl.pos L):=aA (by rw[←hLk,List.take_length])
   have HHB:=aA hc'
   clear HBH HM HLB HHL hLk hc' hf hacc
   by_cases hd0:d=0
   ·subst hd0
    clear hend
    go_wp2_with fail
    refine HBa.out.mono ?_;rintro _ w'' ⟨rfl,rfl⟩
    go_wp2
    simp only[Exit.jump]
    go_ret3
    rw[HE.out]
    exact zaW.good HPL.out HOO.out HB.out
   ·obtain rfl:m=2:=by omega
    have hd0':((d:Int)==0)=false:=beq_eq_false_iff_ne.2 (by omega)
    clear hend hd0
    go_wp2_with fail
    refine HBa.out.mono ?_;rintro _ w'' ⟨rfl,rfl⟩
    go_wp2
    simp only[Exit.jump]
    go_ret3
    rw[HE.out]
    exact zaW.good HPL.out HOO.out HB.out
  ·have hd0:((d:Int)==0)=false:=beq_eq_false_iff_ne.2 (by omega)
   have hm2:((m:Int)==2)=false:=beq_eq_false_iff_ne.2 (by omega)
   have HEND:Hid (¬(l.length=0∨m=2)):=aA (by have:=HLD.out;omega)
   have hA':A'≠none:=zkr HRR.out (by have:=HLD.out;omega)
   have HPC:=aA (zhC A' hA' c' l w' (HRR.out.more HB.out.size) HLB.out (by have:=HLD.out;omega) (by have:=HLD.out;omega) (by have:=HLD.out;omega) HM.out)
   rw[HLD.out]at HPC
   have HFN:=aA (T.piece_fine l (by have:=HLD.out;omega) HLB.out)
   have HMB:Hid (0≤m):=aA (Nat.zero_le _)
   clear hend hA'
   go_wp2_with fail
   refine HPC.out.mono ?_;rintro _ w1 hans
   obtain⟨xk,xn,xe,hx,rfl,hb1⟩:=hans.parts
   have HX:=aA hx
   have HB1:=aA hb1
   have HRR1:=aA (HRR.out.below hb1 HB.out.size)
   have HOO1:=aA (HOO.out.below hb1 (Nat.le_refl _))
   have HB01:=aA (HB.out.trans (hb1.mono HB.out.size))
   clear hans hx hb1 HPC HRR HOO HM
   by_cases hxe:xe=0
   ·subst hxe
    have hfine:=HFN.out
    rw[HX.out]at hfine
    obtain⟨hfn,hk0,hk12,_,_,_⟩:=hfine
    obtain⟨hn1,hn2,_,_⟩:=hfn rfl
    simp only at hn1 hn2 hk0 hk12
    rw[HLD.out]at hn2
    obtain⟨f,rfl⟩:∃f',f=f'+1:=⟨f-1,by omega⟩
    have HSC:Hid (zdR f (l.drop xn) (k+xn) (zaq m (xk,xn,0)) (more acc k (xk,xn,0) l)=R):=aA (by
     rw[←HAT.out,zbB f l k m acc HEND.out (by rw[HX.out]),HX.out])
    have S1:=fun w=>zbA w A' c' d xn hn2
    have S2:=fun w=>zdq w A' c' d xn (by omega)
    have HDR:=aA (fun(w2:World) (h2:RdB w2 w.heap.size A' l)=>h2.dropA (by rw[HLD.out];exact hc') xn)
    have HG:=aA (fun(w2:World) (h2:RdB w2 w.heap.size A' l)=>fun n=>(HBH.out xn hn2 (w2.drewN n) (h2.drewN n)).mono (R':=fun e w'=>e=.returned (.complex .f64 (Fl.fl (Pl.pos (L.take (k+xn))).1) (Fl.fl (Pl.pos (L.take (k+xn))).2))∧w'=w2.drewN n) fun _ _ h=>⟨h.1,h.2.symm⟩)
    have HLD2:Hid (L.drop (k+xn)=l.drop xn):=aA (by rw[HLL.out,List.drop_drop])
    have HTK:=aA (fun(w2:World) (X Y:Nat) (h2:RdB w2 w2.heap.size A' l)=>(by
     have h:=zg2 xk A' c' (l.take xn) X Y w2 (h2.take xn) (HLB.out.take xn)
     rw[List.length_take,Nat.min_eq_left (by rw[HLD.out];exact hn2)]at h
     exact h:Calls Tryz.prog 82 #[.int .i64 xk,.slice A' xn c',.complex .f64 X Y] w2 fun e w'=>e=.returned (.agg #[.int .i64 xk,.string (K.str (aW xk (l.take xn))),.complex .f64 X Y])∧Below w2.heap.size w2 w'))
    have HXN:=aA (show xn≤d∧1≤xn from⟨hn2,hn1⟩)
    clear hfn HBH HFN HX HAT
    generalize hD:dropA A' c' xn=D at *
    have HDD:=aA hD
    clear hD
    rcases hk:(xk==0) with _|_
    ·have HK:Hid (¬xk=0):=aA (by simpa using hk)
     have HMR:Hid (more acc k (xk,xn,0) l=acc++[⟨xk,aW xk (l.take xn),k⟩]):=aA (by unfold more;rw[if_neg HK.out])
     have HT2:=aA (HTK.out w1 (Fl.fl p.1) (Fl.fl p.2) (HRR1.out.more HB01.out.size))
     generalize hst:K.str (aW xk (l.take xn))=st at *
     have HST:=aA hst
     clear hst
     go_wp2_with fail
     refine HT2.out.mono ?_;rintro _ w2 ⟨rfl,hb2⟩
     have HB02:=aA (HB01.out.trans (hb2.mono HB01.out.size))
     have HOO2:=aA (HOO1.out.below hb2 (Nat.le_refl _))
     have HRR2:=aA (HRR1.out.below hb2 HB01.out.size)
     clear hb2 HT2 HOO1 HRR1 HTK
     have HCE:Hid (∀j u,(zav L ⟨xk,aW xk (l.take xn),k⟩)[j]?=some u→(w2.alloc (.cells #[.int .i64 xk,.string st,.complex .f64 (Fl.fl p.1) (Fl.fl p.2)] 122)).cell? ⟨w2.heap.size,j,none⟩=some u):=aA (by
      intro j u hu
      rw[World.cell?_alloc_new]
      have e:zav L ⟨xk,aW xk (l.take xn),k⟩=[.int .i64 xk,.string st,.complex .f64 (Fl.fl p.1) (Fl.fl p.2)]:=by
       unfold zav;rw[HST.out,HP.out]
      rw[e]at hu
      simpa using hu)
     have HAC:Hid ((acc++[(⟨xk,aW xk (l.take xn),k⟩:Tok)]).length≤k+xn):=aA (by have:=HACC.out;have:=HXN.out;simp;omega)
     rw[HMR.out]at HSC
     rcases hk9:(xk==9) with _|_
     ·have HMK:Hid (zaq m (xk,xn,0)=m):=aA (by unfold zaq;rw[if_neg (by simpa using hk9)])
      rw[HMK.out]at HSC
      go_wp2_with (at_builtin;refine zdN rfl (.tmp 38) (.tmp 45) _ rfl Tryz.underlying82 L w.heap.size _ acc rfl (HOO2.out.alloc _) w2.heap.size 1 ⟨xk,aW xk (l.take xn),k⟩ rfl HCE.out (by have:=HACC.out;omega) (by have:=HB02.out.size;simp;omega) ?_;intro v3 w3 ho3 hg3)
      have HB03:=aA (zan (HB02.out.alloc HB02.out.size (.cells #[.int .i64 xk,.string st,.complex .f64 (Fl.fl p.1) (Fl.fl p.2)] 122)) (HOO2.out.alloc (.cells #[.int .i64 xk,.string st,.complex .f64 (Fl.fl p.1) (Fl.fl p.2)] 122)) hg3 (by have:=HB02.out.size;simp;omega))
      have HOO3:=aA ho3
      have HRR3:=aA (HRR2.out.below (zan ((Below.refl w.heap.size w2).alloc HB02.out.size (.cells #[.int .i64 xk,.string st,.complex .f64 (Fl.fl p.1) (Fl.fl p.2)] 122)) (HOO2.out.alloc (.cells #[.int .i64 xk,.string st,.complex .f64 (Fl.fl p.1) (Fl.fl p.2)] 122)) hg3 (by have:=HB02.out.size;simp;omega)) (Nat.le_refl _))
      clear ho3 hg3
      have HGn:=aA (HG.out w3 HRR3.out)
      have HDn:=aA (HDR.out w3 HRR3.out)
      go_quiet ((go_at_call 80;exact Calls.quiet_of_same (HGn.out _)))
      go_wp2
      go_step3
      refine⟨rfl,⟨k+xn,d-xn,f,m,(m:Int),(acc++[⟨xk,aW xk (l.take xn),k⟩]),l.drop xn,Pl.pos (L.take (k+xn)),D,c'-xn,v3,rfl,⟨by have:=HXN.out;omega,HLD2.out.symm,rfl,aB HB03.out nq,HDn.out.drewN nq,HOO3.out.drewN nq,by have:=HXN.out;omega,by have:=HXN.out;omega,HAC.out,by have:=HMK0.out;have:=HXN.out;omega,HSC.out⟩,_,_,_,_,_,_,_,_,_,_,_,_,_,_,_,_,_,_,_,_,_,_,_,_,_,_,_,_,_,_,_,_,_,_,_,_,_,_,_,_,_,_,_,_,_,_,_,_,_,_,_,_,rfl⟩,?_⟩
      simp[zaZ]
      have:=HXN.out
      omega
     ·have HMK:Hid (zaq m (xk,xn,0)=m+1):=aA (by unfold zaq;rw[if_pos (by simpa using hk9)])
      rw[HMK.out]at HSC
      go_wp2_with (at_builtin;refine zdN rfl (.tmp 38) (.tmp 45) _ rfl Tryz.underlying82 L w.heap.size _ acc rfl (HOO2.out.alloc _) w2.heap.size 1 ⟨xk,aW xk (l.take xn),k⟩ rfl HCE.out (by have:=HACC.out;omega) (by have:=HB02.out.size;simp;omega) ?_;intro v3 w3 ho3 hg3)
      have HB03:=aA (zan (HB02.out.alloc HB02.out.size (.cells #[.int .i64 xk,.string st,.complex .f64 (Fl.fl p.1) (Fl.fl p.2)] 122)) (HOO2.out.alloc (.cells #[.int .i64 xk,.string st,.complex .f64 (Fl.fl p.1) (Fl.fl p.2)] 122)) hg3 (by have:=HB02.out.size;simp;omega))
      have HOO3:=aA ho3
      have HRR3:=aA (HRR2.out.below (zan ((Below.refl w.heap.size w2).alloc HB02.out.size (.cells #[.int .i64 xk,.string st,.complex .f64 (Fl.fl p.1) (Fl.fl p.2)] 122)) (HOO2.out.alloc (.cells #[.int .i64 xk,.string st,.complex .f64 (Fl.fl p.1) (Fl.fl p.2)] 122)) hg3 (by have:=HB02.out.size;simp;omega)) (Nat.le_refl _))
      clear ho3 hg3
      have HGn:=aA (HG.out w3 HRR3.out)
      have HDn:=aA (HDR.out w3 HRR3.out)
      go_quiet ((go_at_call 80;exact Calls.quiet_of_same (HGn.out _)))
      go_wp2
      go_step3
      refine⟨rfl,⟨k+xn,d-xn,f,(m+1),((m:Int)+1),(acc++[⟨xk,aW xk (l.take xn),k⟩]),l.drop xn,Pl.pos (L.take (k+xn)),D,c'-xn,v3,by omega,⟨by have:=HXN.out;omega,HLD2.out.symm,rfl,aB HB03.out nq,HDn.out.drewN nq,HOO3.out.drewN nq,by have:=HXN.out;omega,by have:=HXN.out;omega,HAC.out,by have:=HMK0.out;have:=HXN.out;omega,HSC.out⟩,_,_,_,_,_,_,_,_,_,_,_,_,_,_,_,_,_,_,_,_,_,_,_,_,_,_,_,_,_,_,_,_,_,_,_,_,_,_,_,_,_,_,_,_,_,_,_,_,_,_,_,_,rfl⟩,?_⟩
      simp[zaZ]
      have:=HXN.out
      omega
    ·obtain rfl:xk=0:=by simpa using hk
     have HMK:Hid (zaq m (0,xn,0)=m):=aA rfl
     have HMR:Hid (more acc k (0,xn,0) l=acc):=aA rfl
     rw[HMK.out,HMR.out]at HSC
     clear HTK
     go_wp2
     have HGn:=aA (HG.out w1 HRR1.out)
     have HDn:=aA (HDR.out w1 HRR1.out)
     go_quiet ((go_at_call 80;exact Calls.quiet_of_same (HGn.out _)))
     go_wp2
     go_step3
     refine⟨rfl,⟨k+xn,d-xn,f,m,(m:Int),acc,l.drop xn,Pl.pos (L.take (k+xn)),D,c'-xn,v,rfl,⟨by have:=HXN.out;omega,HLD2.out.symm,rfl,aB HB01.out nq,HDn.out.drewN nq,HOO1.out.drewN nq,by have:=HXN.out;omega,by have:=HXN.out;omega,by have:=HACC.out;omega,by have:=HMK0.out;omega,HSC.out⟩,_,_,_,_,_,_,_,_,_,_,_,_,_,_,_,_,_,_,_,_,_,_,_,_,_,_,_,_,_,_,_,_,_,_,_,_,_,_,_,_,_,_,_,_,_,_,_,_,_,_,_,_,rfl⟩,?_⟩
     simp[zaZ]
     have:=HXN.out
     omega
   ·have HXE:Hid (R=.bad k xe):=aA (by
     obtain⟨f,rfl⟩:∃f',f=f'+1:=⟨f-1,by omega⟩
     rw[←HAT.out,zbX f l k m acc HEND.out (by rw[HX.out];exact hxe),HX.out])
    have hxe':(xe==0)=false:=by simpa using hxe
    clear hxe HBH HFN HRR1 HOO1
    go_wp2
    simp only[Exit.jump]
    go_ret3
    rw[HXE.out]
    exact zaW.wrong HP.out HB01.out
 ·intro hp
  have h4:¬(L.length:Int) > 4000:=by omega
  go_wp2_with fail
  refine(HO.out _).mono ?_;rintro _ w' ⟨rfl,rfl⟩
  go_wp2
  go_step3
  rename_i hK
  refine hK _ _ (hp _ _ ⟨0,L.length,L.length+1,0,0,[],L,(1,1),A,c,.slice none 0 0,rfl,⟨by omega,rfl,rfl,Below.refl _ _,hr,bR.nil _ _ _,hc,by omega,by simp,by omega,HR.out⟩,_,_,_,_,_,_,_,_,_,_,_,_,_,_,_,_,_,_,_,_,_,_,_,_,_,_,_,_,_,_,_,_,_,_,_,_,_,_,_,_,_,_,_,_,_,_,_,_,_,_,_,_,rfl⟩)
theorem Rdr.cell0 {L:List Int} {B R px py:Nat} {w:World} {ts:List Tok} (h:Rdr L B R px py w ts):∃A c,w.cell? ⟨R,0,none⟩=some (.slice A ts.length c)∧w.cell? ⟨R,1,none⟩=some (.complex .f64 px py)∧w.frozen? ⟨R,0,none⟩=false∧ts.length≤c∧RdT L w B A ts ∧
  ∀A' c' ts',ts'.length≤c'→ts'.length≤4000→RdT L w B A' ts'→Rdr L B R px py (w.setCell ⟨R,0,none⟩ (.slice A' ts'.length c')) ts':=by
 obtain⟨A,c,hh,h1,h2,h3,h4⟩:=h
 refine⟨A,c,by rw[cell_of_row w R 0 _ _ _ hh];rfl,by rw[cell_of_row w R 1 _ _ _ hh];rfl,frozen_of_row w R 0 _ _ hh,h1,h3,fun A' c' ts' k1 k2 k3=>⟨A',c',?_,k1,k2,?_,h4⟩⟩
 ·rw[heap_setCell_same w R 0 _ _ _ hh];rfl
 ·exact k3.keep fun g o hg=>World.cell?_of_block (Below.heap_setCell w ⟨R,0,none⟩ _ g (by simp only;omega))
theorem zjQ (L:List Int) (B R px py:Nat) (ts:List Tok) (ks:List Int) (KA:Option Addr) (kc B':Nat) (w:World) (hr:Rdr L B R px py w ts) (hk:RdI w B' KA ks) (hn:ks.length≤1000) :
  Calls Tryz.prog 117 #[.pointer (some ⟨R,0,none⟩),.slice KA ks.length kc] w fun e w'=>e=.returned (.bool (Y.is ks ts))∧w=w':=by
 obtain⟨A,c,h0,_,_,hc,ht,_⟩:=hr.cell0
 rcases ts with _|⟨t,r⟩
 ·clear hr ht hk
  go_enter Tryz.func117,Tryz.ntmps117
  go_wp2
  go_ret
  exact⟨rfl,rfl⟩
 ·obtain⟨g,o,rfl,_,hcl⟩:=ht (by simp)
  have hcell:w.cell? ⟨g,o,none⟩=some (.int .i64 t.k):=hcl 0 0 _ (by simp) rfl
  have HP:=aA (zeH KA kc B' ks t.k w hk hn)
  have hl:0<((t::r).length:Int):=by simp
  have HY:Hid (Y.is ks (t::r)=ks.contains t.k):=aA rfl
  clear hr ht hk hcl
  generalize (t::r).length=n at *
  generalize Y.is ks (t::r)=yb at *
  generalize t.k=z at *
  generalize ks.contains z=kb at *
  go_enter Tryz.func117,Tryz.ntmps117
  go_wp2_with fail
  refine HP.out.mono ?_;rintro _ w' ⟨rfl,rfl⟩
  go_wp2
  go_ret
  exact⟨aG HY.out.symm,rfl⟩
def zgT (L:List Int) (t:Tok):Value:=.agg #[.int .i64 t.k,.string (K.str t.t),.complex .f64 (Fl.fl (Pl.pos (L.take t.o)).1) (Fl.fl (Pl.pos (L.take t.o)).2)]
def bK (L:List Int) (t:Tok):Value:=.agg #[.string (K.str t.t),.complex .f64 (Fl.fl (Pl.pos (L.take t.o)).1) (Fl.fl (Pl.pos (L.take t.o)).2)]
theorem zcT (w:World) (A:Option Addr) (c n:Nat) (hk:1≤n):(Instr.sliceAt 82 (.slice A n c) (some (.int .i64 1)) none none).run Tryz.prog w=.ok (.slice (zgr A c) (n-1) (c-1)) w:=by
 rw[run_sliceAt_slice _ _ _ _ _ _ (by kernel_rfl),run_slice_l _ _ _ _ _ (by kernel_rfl) .i64 (1:Int) (by omega) (by omega)]
 have hs:(sizeOf (Tryz.prog.elem 82)).run Tryz.prog w=.ok 3 w:=by kernel_rfl
 rw[hs]
 simp[Result.andThen,sliced,zgr]
theorem zdn (L:List Int) (B R px py:Nat) (ts:List Tok) (ks:List Int) (KA:Option Addr) (kc B':Nat) (w:World) (hr:Rdr L B R px py w ts) (hk:RdI w B' KA ks) (hB:B'≤w.heap.size) (hn:ks.length≤1000) :
  Calls Tryz.prog 119 #[.pointer (some ⟨R,0,none⟩),.slice KA ks.length kc] w (zfl L B R px py w (fun t v _=>v=zgT L t) (Y.take ks ts)):=by
 have HR:=aA (fun(w1:World) (h1:Below w.heap.size w w1)=>hr.grown (row:=.none) (aQ h1 .none) (fun _ e=>by cases e))
 have HK:=aA (fun(w1:World) (h1:Below w.heap.size w w1)=>hk.below h1 hB)
 have HB0:=aA (fun o=>((Below.refl w.heap.size w).alloc (Nat.le_refl _) o))
 have hlt:=hr.lt
 rcases ts with _|⟨t,r⟩
 ·obtain⟨A,c,h0,h1,_,hc,ht,_⟩:=hr.cell0
  clear hr ht hk hc
  go_enter Tryz.func119,Tryz.ntmps119
  go_wp2
  exact⟨rfl,aQ (HB0.out _) _,rfl⟩
 ·obtain⟨A,c,h0,h1,hf,hc,ht,hset⟩:=hr.cell0
  obtain⟨g,o,hA,hgB,hcl⟩:=ht (by simp)
  have hc0:w.cell? ⟨g,o,none⟩=some (.int .i64 t.k):=hcl 0 0 _ (by simp) rfl
  have hc1:w.cell? ⟨g,o+1,none⟩=some (.string (K.str t.t)):=hcl 0 1 _ (by simp) rfl
  have hc2:w.cell? ⟨g,o+2,none⟩=some (.complex .f64 (Fl.fl (Pl.pos (L.take t.o)).1) (Fl.fl (Pl.pos (L.take t.o)).2)):=hcl 0 2 _ (by simp) rfl
  have hglt:g<w.heap.size:=by obtain⟨_,_,_,_,_,_,hBR⟩:=hr;omega
  have HIS:=aA (fun(w1:World) (h1:Below w.heap.size w w1)=>zjQ L B R px py (t::r) ks KA kc B' w1 (HR.out w1 h1) (HK.out w1 h1) hn)
  have HT:=aA (ht.tail hc)
  have HSET:=aA hset
  have S1:=fun w=>zcT w A c (t::r).length (by simp)
  have SC:=fun a w m X Y=>show(store a (.complex .f64 X Y) m).run Tryz.prog w=stored Tryz.prog w a (.complex .f64 X Y) m from run_store _ w a _ m rfl
  have hl0:(((t::r).length:Int)==0)=false:=by simp;omega
  have hl1:0<(t::r).length:=by simp
  have HN:Hid ((t::r).length=r.length+1∧r.length+1≤c∧r.length+1≤4000):=aA ⟨rfl,hc,by obtain⟨_,_,_,_,h4,_,_⟩:=hr;simpa using h4⟩
  unfold zgT
  have HY:Hid (Y.take ks (t::r)=if Y.is ks (t::r) then .ok t r else .bad (some t)):=aA rfl
  clear hr ht hk hcl hset
  subst hA
  generalize (t::r).length=n at *
  generalize Y.is ks (t::r)=yb at *
  generalize Y.take ks (t::r)=res at *
  generalize hz:t.k=z at *
  generalize hs:K.str t.t=st at *
  have HZS:=aA (And.intro hz hs)
  clear hz hs
  generalize hX:Fl.fl (Pl.pos (L.take t.o)).1=X at *
  generalize hY:Fl.fl (Pl.pos (L.take t.o)).2=Y' at *
  have HXY:=aA (And.intro hX hY)
  clear hX hY
  go_enter Tryz.func119,Tryz.ntmps119
  go_wp2_with fail
  refine(HIS.out _ (((Below.refl w.heap.size w).alloc (Nat.le_refl _) _).alloc (by simp) _)).mono ?_;rintro _ w2 ⟨rfl,rfl⟩
  cases yb
  ·go_wp2
   obtain rfl:res=.bad (some t):=by rw[HY.out];rfl
   refine⟨rfl,aC (aC (World.grownBy.refl _ _) _) _,?_⟩
   rw[←HXY.out.1,←HXY.out.2]
   rfl
  ·go_wp2
   obtain rfl:res=.ok t r:=by rw[HY.out];rfl
   refine bodyPost_ret (v:=.agg #[.int .i64 z,.string st,.complex .f64 X Y']) (by simp[results,Tryz.results119,go_sem]) rfl ⟨aC (aC (aD (World.grownBy.refl _ _) _ _) _) _,_,rfl,?_,?_⟩
   ·have hk:=HSET.out (zgr (some ⟨g,o,none⟩) c) (c-1) r (by have:=HN.out;omega) (by have:=HN.out;omega) HT.out
    rw[show n-1=r.length by have:=HN.out;omega]
    exact(hk.alloc _).alloc _
   ·rw[←HXY.out.1,←HXY.out.2,←HZS.out.1,←HZS.out.2]
theorem zki (L:List Int) (B R px py:Nat) (ts:List Tok) (ks:List Int) (KA:Option Addr) (kc B':Nat) (w:World) (hr:Rdr L B R px py w ts) (hk:RdI w B' KA ks) (hB:B'≤w.heap.size) (hn:ks.length≤1000) :
  Calls Tryz.prog 154 #[.pointer (some ⟨R,0,none⟩),.slice KA ks.length kc] w (zfl L B R px py w (fun t v _=>v=bK L t) (Y.take ks ts)):=by
 have HT:=aA (fun o=>zdn L B R px py ts ks KA kc B' (w.alloc o) (hr.alloc o) (hk.below ((Below.refl w.heap.size w).alloc (Nat.le_refl _) o) hB) (by simp;omega) hn)
 have HG:=aA (fun o=>aC (World.grownBy.refl w (some R)) o)
 have hRlt:=hr.lt
 clear hr hk
 rcases hres:Y.take ks ts with⟨t,r⟩|p
 ·rw[hres]at HT
  unfold bK
  unfold zgT at HT
  have SC:=fun a w m X Y=>show(store a (.complex .f64 X Y) m).run Tryz.prog w=stored Tryz.prog w a (.complex .f64 X Y) m from run_store _ w a _ m rfl
  clear hres
  go_enter Tryz.func154,Tryz.ntmps154
  go_wp2_with fail
  refine(HT.out _).mono ?_;rintro _ w2 ⟨hg,v,rfl,hrd,rfl⟩
  have HG2:=aA ((HG.out _).trans hg)
  have HRD:=aA hrd
  have hbk:=zbL hg hRlt
  have hsz:=zhg hg
  have r0:=cell_of_row w2 _ 0 _ _ _ hbk
  have r1:=cell_of_row w2 _ 1 _ _ _ hbk
  have f0:=frozen_of_row w2 _ 0 _ _ hbk
  have f1:=frozen_of_row w2 _ 1 _ _ hbk
  clear hg hrd hbk
  go_wp2
  refine bodyPost_ret (v:=.agg #[.string (K.str t.t),.complex .f64 (Fl.fl (Pl.pos (L.take t.o)).1) (Fl.fl (Pl.pos (L.take t.o)).2)]) (by simp[results,Tryz.results154,go_sem,r0,r1,hsz]) rfl ⟨aC (aI (aI HG2.out _ _ _ (Nat.le_refl _)) _ _ _ (Nat.le_refl _)) _,_,rfl,((HRD.out.far _ _ _ hRlt).far _ _ _ hRlt).alloc _,rfl⟩
 ·rw[hres]at HT
  clear hres
  go_enter Tryz.func154,Tryz.ntmps154
  go_wp2_with fail
  refine(HT.out _).mono ?_;rintro _ w2 ⟨hg,rfl⟩
  exact⟨rfl,(HG.out _).trans hg,rfl⟩
theorem zlF (w:World) (ks:List Int):RdI (w.alloc (zbd ks)) (w.heap.size+1) (some ⟨w.heap.size,0,none⟩) ks:=by
 have h:=(zlE w ks).1
 rwa [show(w.alloc (zbd ks)).heap.size=w.heap.size+1 by simp]at h
theorem zh5 (L:List Int) (B R px py:Nat) (ts:List Tok) (ks:List Int) (w:World) (hr:Rdr L B R px py w ts) (hn:ks.length≤1000) :
  Calls Tryz.prog 117 #[.pointer (some ⟨R,0,none⟩),.slice (some ⟨w.heap.size,0,none⟩) ks.length ks.length] (w.alloc (zbd ks)) fun e w'=>e=.returned (.bool (Y.is ks ts))∧w.grownBy w' .none :=
 (zjQ L B R px py ts ks _ _ (w.heap.size+1) _ (hr.alloc _) (zlF w ks) hn).mono fun _ _ h=>⟨h.1,h.2▸aC (World.grownBy.refl _ _) _⟩
theorem zfl.since {α:Type} {L:List Int} {B R px py:Nat} {w w1:World} {V:α→Value→World→Prop} {res:Y.Res α} {e:Ending} {w':World} (h:zfl L B R px py w1 V res e w') (hg:w.grownBy w1 (some R)):zfl L B R px py w V res e w':=⟨hg.trans h.1,h.2⟩
theorem zfs (L:List Int) (B R px py:Nat) (ts:List Tok) (ks:List Int) (w:World) (hr:Rdr L B R px py w ts) (hn:ks.length≤1000) :
  Calls Tryz.prog 119 #[.pointer (some ⟨R,0,none⟩),.slice (some ⟨w.heap.size,0,none⟩) ks.length ks.length] (w.alloc (zbd ks)) (zfl L B R px py w (fun t v _=>v=zgT L t) (Y.take ks ts)) :=
 (zdn L B R px py ts ks _ _ (w.heap.size+1) _ (hr.alloc _) (zlF w ks) (by simp) hn).mono fun _ _ h=>h.since (aC (World.grownBy.refl _ _) _)
theorem zeU (L:List Int) (B R px py:Nat) (ts:List Tok) (ks:List Int) (w:World) (hr:Rdr L B R px py w ts) (hn:ks.length≤1000) :
  Calls Tryz.prog 154 #[.pointer (some ⟨R,0,none⟩),.slice (some ⟨w.heap.size,0,none⟩) ks.length ks.length] (w.alloc (zbd ks)) (zfl L B R px py w (fun t v _=>v=bK L t) (Y.take ks ts)) :=
 (zki L B R px py ts ks _ _ (w.heap.size+1) _ (hr.alloc _) (zlF w ks) (by simp) hn).mono fun _ _ h=>h.since (aC (World.grownBy.refl _ _) _)
theorem zku (L:List Int) (B R px py:Nat) (ts:List Tok) (ks:List Int) (hn:ks.length≤1000) (w:World) (n m:Nat) (hm:m=ks.length) (hw:n=w.heap.size) (hr:Rdr L B R px py w ts) :
  Calls Tryz.prog 117 #[.pointer (some ⟨R,0,none⟩),.slice (some ⟨n,0,none⟩) m m] (w.alloc (zbd ks)) fun e w'=>e=.returned (.bool (Y.is ks ts))∧w.grownBy w' .none:=by
 subst hm hw;exact zh5 L B R px py ts ks w hr hn
theorem zcc (L:List Int) (B R px py:Nat) (ts:List Tok) (ks:List Int) (hn:ks.length≤1000) (w:World) (n m:Nat) (hm:m=ks.length) (hw:n=w.heap.size) (hr:Rdr L B R px py w ts) :
  Calls Tryz.prog 119 #[.pointer (some ⟨R,0,none⟩),.slice (some ⟨n,0,none⟩) m m] (w.alloc (zbd ks)) (zfl L B R px py w (fun t v _=>v=zgT L t) (Y.take ks ts)):=by
 subst hm hw;exact zfs L B R px py ts ks w hr hn
theorem zhw (L:List Int) (B R px py:Nat) (ts:List Tok) (ks:List Int) (hn:ks.length≤1000) (w:World) (n m:Nat) (hm:m=ks.length) (hw:n=w.heap.size) (hr:Rdr L B R px py w ts) :
  Calls Tryz.prog 154 #[.pointer (some ⟨R,0,none⟩),.slice (some ⟨n,0,none⟩) m m] (w.alloc (zbd ks)) (zfl L B R px py w (fun t v _=>v=bK L t) (Y.take ks ts)):=by
 subst hm hw;exact zeU L B R px py ts ks w hr hn
def zkK (L:List Int) (B R px py:Nat) (ts:List Tok) (w:World) (e:Ending) (w':World):Prop :=
 w.grownBy w' (some R)∧∃v,e=.returned v∧bN L w' w.heap.size v (ts.takeWhile Y.isRef)∧Rdr L B R px py w' (ts.dropWhile Y.isRef)
theorem zfz (L:List Int) (B R px py:Nat) (ts:List Tok) (w:World) (hr:Rdr L B R px py w ts) :
  Calls Tryz.prog 155 #[.pointer (some ⟨R,0,none⟩)] w (zkK L B R px py ts w):=by
 have HR:=aA hr
 have hRlt:=hr.lt
 have hts:ts.length≤4000:=by obtain⟨_,_,_,_,h,_⟩:=hr;exact h
 clear hr
 go_enter Tryz.func155,Tryz.ntmps155
 go_wp2
 go_loopw [3] (fun v wr=>∃(acc rest:List Tok),bN L wr w.heap.size v acc∧Rdr L B R px py wr rest∧w.grownBy wr (some R)∧acc.length+rest.length=ts.length∧acc++rest.takeWhile Y.isRef=ts.takeWhile Y.isRef∧rest.dropWhile Y.isRef=ts.dropWhile Y.isRef) (fun v _=>4001-zaZ v)
 case atStart=>exact⟨[],ts,bN.nil _ _ _,HR.out,World.grownBy.refl _ _,by simp,rfl,rfl⟩
 case round =>
  clear HR
  obtain⟨acc,rest,ho,hr,hg,hlen,htk,hdp⟩:=hrel
  have HO:=aA ho
  have HR:=aA hr
  have HG:=aA hg
  have HL:=aA hlen
  have HTK:=aA htk
  have HDP:=aA hdp
  obtain⟨A,c,rfl,hc1,hc2⟩:=ho.rd
  have HIS:=aA (zh5 L B R px py rest [1,2] wr hr (by decide))
  clear ho hr hg hlen htk hdp hc1 hc2
  rcases hb:Y.is [1,2] rest with _|_
  ·rw[hb]at HIS
   have HB:=aA hb
   clear hb
   go_wp2_with fail
   refine HIS.out.mono ?_;rintro _ w2 ⟨rfl,hg2⟩
   have HG2:=aA hg2
   clear hg2
   go_wp2
   go_ret
   obtain⟨e1,e2⟩:=Y.refs_end HB.out
   rw[e1,List.append_nil]at HTK
   rw[e2]at HDP
   refine⟨HG.out.trans (HG2.out.row _),_,rfl,?_,?_⟩
   ·rw[←HTK.out];exact HO.out.grown HG2.out (bA.none _)
   ·rw[←HDP.out];exact HR.out.grown HG2.out (fun _ e=>by cases e)
  ·rw[hb]at HIS
   obtain⟨t,r,rfl,htake,hk⟩:=Y.is_true hb
   have HRF:=aA (fun w1 (h1:wr.grownBy w1 .none)=>zeU L B R px py (t::r) [1,2] w1 (HR.out.grown h1 (fun _ e=>by cases e)) (by decide))
   rw[htake]at HRF
   have HK:Hid (Y.isRef t=true):=aA hk
   clear hb htake hk
   unfold bK at HRF
   go_wp2_with fail
   refine HIS.out.mono ?_;rintro _ w2 ⟨rfl,hg2⟩
   have HG2:=aA hg2
   clear hg2
   go_wp2_with fail
   refine(HRF.out _ HG2.out).mono ?_;rintro _ w3 ⟨hg3,v,rfl,hrd,rfl⟩
   have HG3:=aA hg3
   have HRD:=aA hrd
   have HO3:=aA ((HO.out.grown HG2.out (bA.none _)).grown hg3 (HR.out.grown HG2.out (fun _ e=>by cases e)).other)
   clear hg3 hrd
   have HCE:=aA (zec L w3 t)
   have HS0:Hid (w.heap.size≤w3.heap.size):=aA (by have h1:=HG.out.size;have h2:=HG2.out.size;have h3:=HG3.out.size;omega)
   have HAC:Hid (acc.length≤4000):=aA (by have:=HL.out;simp at this;omega)
   go_wp2_with (at_builtin;refine ziy rfl (.tmp 7) (.tmp 11) _ rfl Tryz.underlying102 L w.heap.size _ acc rfl (HO3.out.alloc _) w3.heap.size 1 t rfl HCE.out (by have:=HAC.out;omega) (by have:=HS0.out;simp;omega) ?_;intro v4 w4 ho4 hg4)
   have HG4:=aA (aS (aC ((HG.out.trans (HG2.out.row _)).trans HG3.out) _) (HO3.out.alloc _) hg4)
   have HRD4:=aA ((HRD.out.alloc _).own (HO3.out.alloc _) hg4 hRlt)
   have HO4:=aA ho4
   clear ho4 hg4
   go_roundw
   case rel =>
    refine⟨acc++[t],r,HO4.out,HRD4.out,HG4.out,?_,?_,?_⟩
    ·have:=HL.out;simp at this ⊢;omega
    ·rw[←HTK.out,List.takeWhile_cons,HK.out];simp
    ·rw[←HDP.out,List.dropWhile_cons,HK.out];rfl
   case measure =>
    obtain⟨A4,c4,rfl,_,_⟩:=HO4.out.rd
    have:=HAC.out
    simp[zaZ];omega
end Go.Proofs.YtkfelkpilaipnaaGreatDoor
namespace Go.Calm
open Go.RowKit
section
variable {P:Program} {ops:Array Oper} {Q:Exit→Act→World→Prop} {md:Region.Mode}
def plainB:Op→Bool
 | .move _ | .assign _ | .pick .. | .load .. | .convert .. | .binOp .. | .unOp .. | .slice .. | .fieldAddr .. | .field .. | .indexAddr .. | .index .. | .extract .. | .build ..=>true
 | .call c=>match c.callee with
  | .builtin .len | .builtin .cap=>true
  | _=>false
 | _=>false
theorem value_of {s:Sem Value} {w w':World} {n:Next} (h:((do pure (.value (←s))):Sem Next).run P w=.ok n w'):∃u,n=.value u:=by
 rw[Sem.run_bind]at h
 cases hs:s.run P w with
 | ok v w1=>rw[hs]at h;simp[Result.andThen,Sem.run_pure]at h;exact⟨v,h.1.symm⟩
 | halt x w1=>rw[hs]at h;simp[Result.andThen]at h
theorem plain_value {o:Oper} (hp:plainB o.op=true) {a:Act} {w w':World} {n:Next} (h:(execOp a.eval o).run P w=.ok n w'):∃u,n=.value u:=by
 obtain⟨dst,op,type,pos,after,guard⟩:=o
 cases op with
 | call c =>
  obtain⟨callee,args,ats⟩:=c
  cases callee with
  | builtin b =>
   cases b with
   | len=>exact value_of (s:=Builtin.len_ ats type (args.map a.eval)) h
   | cap=>exact value_of (s:=Builtin.cap_ ats type (args.map a.eval)) h
   | _=>exact absurd hp (by simp[plainB])
  | invoke recv name=>exact absurd hp (by simp[plainB])
  | value f=>exact absurd hp (by simp[plainB])
 | move x=>simp[execOp,Sem.run_pure]at h;exact⟨_,h.1.symm⟩
 | assign x=>simp[execOp,Sem.run_pure]at h;exact⟨_,h.1.symm⟩
 | pick c x y =>
  simp only[execOp,Sem.run_bind]at h
  cases hs:(asBool (a.eval c)).run P w with
  | ok v w1=>rw[hs]at h;simp[Result.andThen,Sem.run_pure]at h;exact⟨_,h.1.symm⟩
  | halt x w1=>rw[hs]at h;simp[Result.andThen]at h
 | _=>first
  | (simp[plainB]at hp;done)
  | exact value_of h
theorem yieldsIf_of {S:World→Prop} {o:Oper} {a:Act} {v:Value} (hp:plainB o.op=true) (hw:Region.wanted o (yielded ops a.tmps)=true) (h:∀w,S w→o.quietAt P a S w v):YieldsIf P ops S o v a:=by
 refine .inl ⟨hw,fun w hS=>?_⟩
 have h1:=h w hS
 unfold Oper.quietAt at h1
 cases hr:(execOp a.eval o).run P w with
 | ok n w' =>
  obtain⟨u,rfl⟩:=plain_value hp hr
  rw[hr]at h1
  simp only[Oper.quietUpon]at h1
  rw[h1.1,h1.2]
 | halt x w'=>rw[hr]at h1;simp[Oper.quietUpon]at h1
def pickOps (ops:Array Oper):List Nat→List Oper
 | []=>[]
 | i::r=>match ops[i]? with
  | some o=>o::pickOps ops r
  | none=>pickOps ops r
def marked:List Nat→Array Bool→Array Bool
 | [],l=>l
 | i::r,l=>marked r (l.setIfInBounds i true)
def stillB (md:Region.Mode) (ops:Array Oper):List Nat→Array Bool→Bool
 | [],_=>true
 | i::r,l=>(match ops[i]? with|some o=>plainB o.op|none=>false)&&Region.free md ops l i&&(Region.ready md ops l).contains i&&stillB md ops r (l.setIfInBounds i true)
theorem anyH_mono {S S':World→Prop} (h:∀x,S' x→S x):∀(fuel:Nat) (listed:Array Bool) (a:Act) (w:World),wpAnyH P md ops Q S' fuel listed a w→wpAnyH P md ops Q S fuel listed a w
 | 0,_,_,_,k=>k
 | fuel+1,_,_,_,k=>⟨k.1,fun i hi=>wpOp_mono (fun a w hk=>⟨h _ hk.1,anyH_mono h fuel _ a w hk.2⟩) (k.2 i hi)⟩
theorem still_block {S:World→Prop} (hs:Region.noSelect ops=true) (hQ:∀c a d v w,Q (.panic c) (a.put d v) w→Q (.panic c) a w) {w:World} (hS:S w) (fuel:Nat) :
  ∀(p:List Nat) (listed:Array Bool) (a:Act),stillB md ops p listed=true →
   wpQuiet P ops S (fun a'=>wpAnyH P md ops Q S fuel (marked p listed) a' w) (pickOps ops p) a→wpAnyH P md ops Q S (p.length+fuel) listed a w
 | [],_,_,_,h=>by rw[List.length_nil,Nat.zero_add];exact h
 | i::r,listed,a,hb,h=>by
  unfold stillB at hb
  cases ho:ops[i]? with
  | none=>rw[ho]at hb;simp at hb
  | some o =>
   rw[ho]at hb
   simp only[Bool.and_eq_true]at hb
   obtain⟨⟨⟨hp,hf⟩,hr⟩,hrest⟩:=hb
   have hl:pickOps ops (i::r)=o::pickOps ops r:=by simp only[pickOps,ho]
   rw[hl]at h
   rw[show(i::r).length+fuel=(r.length+fuel)+1 by rw[List.length_cons];omega]
   unfold wpQuiet at h
   by_cases hw:Region.wanted o (yielded ops a.tmps)=true
   ·rw[if_pos hw]at h
    obtain⟨v,h1,h2⟩:=h
    exact wpAnyH_take ho hs hf hr (fun c a w=>hQ c a o.dst v w) (yieldsIf_of hp hw h1) hS (still_block hs hQ hS fuel r _ _ hrest h2)
   ·rw[if_neg hw]at h
    exact wpAnyH_take ho hs hf hr (fun c a w=>hQ c a o.dst undef w) (.inr ⟨by simpa using hw,rfl⟩) hS (still_block hs hQ hS fuel r _ _ hrest h)
where
 wpQuiet_mono' {S:World→Prop} {Q1 Q2:Act→Prop} (h:∀a,Q1 a→Q2 a):∀ {l:List Oper} {a:Act},wpQuiet P ops S Q1 l a→wpQuiet P ops S Q2 l a
  | [],_,k=>h _ k
  | o::r,a,k=>by
   unfold wpQuiet at k ⊢
   split
   ·rename_i hw;rw[if_pos hw]at k;obtain⟨v,h1,h2⟩:=k;exact⟨v,h1,wpQuiet_mono' h h2⟩
   ·rename_i hw;rw[if_neg hw]at k;exact wpQuiet_mono' h k
end
def On (B:Nat) (w:World):Type:={x:World // Below B w x}
instance (B:Nat) (w:World):Nonempty (On B w):=⟨⟨w,Below.refl _ _⟩⟩
end Go.Calm
namespace Go.Calm
open Go.RowKit
section
variable {P:Program} {ops:Array Oper} {Q:Exit→Act→World→Prop} {md:Region.Mode}
inductive Ph where
 | fin (last:List Nat)
 | one (p:List Nat) (k:Nat) (t:Ph)
 | two (p:List Nat) (k:Nat) (t:Ph) (k2:Nat) (t2:Ph)
def wpSt (P:Program) (ops:Array Oper) (Q:Exit→Act→World→Prop) (o:Option Oper) (S:World→Prop) (T:(World→Prop)→Act→World→Prop) (a:Act) (w:World):Prop :=
 match o with
 | none=>True
 | some o=>∀K:Act→World→Prop,(∀a2 w2,S w2→∀S':World→Prop,(∀x,S' x→S x)→S' w2→T S' a2 w2→K a2 w2) →
   if Region.wanted o (yielded ops a.tmps)=true then Oper.wp P o a w K Q else K (a.put o.dst undef) w
def wpT (P:Program) (ops:Array Oper) (Q:Exit→Act→World→Prop):Ph→(World→Prop)→Act→World→Prop
 | .fin last,S,a,w=>wpQuiet P ops S (fun a'=>Q .normal a' w) (pickOps ops last) a
 | .one p k t,S,a,w=>wpQuiet P ops S (fun a'=>wpSt P ops Q ops[k]? S (fun S' a2 w2=>wpT P ops Q t S' a2 w2) a' w) (pickOps ops p) a
 | .two p k t k2 t2,S,a,w=>wpQuiet P ops S (fun a'=>wpSt P ops Q ops[k]? S (fun S' a2 w2=>wpT P ops Q t S' a2 w2) a' w∧wpSt P ops Q ops[k2]? S (fun S' a2 w2=>wpT P ops Q t2 S' a2 w2) a' w) (pickOps ops p) a
def tB (md:Region.Mode) (ops:Array Oper):Ph→Array Bool→Nat→Bool
 | .fin last,l,n=>stillB md ops last l&&(Region.ready md ops (marked last l)).isEmpty&&(last.length==n)
 | .one p k t,l,n=>stillB md ops p l&&(match Region.ready md ops (marked p l) with | [j]=>j==k|_=>false)&&(ops[k]?).isSome&&decide (p.length+1≤n)&&tB md ops t ((marked p l).setIfInBounds k true) (n-(p.length+1))
 | .two p k t k2 t2,l,n=>stillB md ops p l&&(match Region.ready md ops (marked p l) with | [j,j2]=>j==k&&j2==k2|_=>false)&&(ops[k]?).isSome&&(ops[k2]?).isSome&&decide (p.length+1≤n)&&tB md ops t ((marked p l).setIfInBounds k true) (n-(p.length+1))&&tB md ops t2 ((marked p l).setIfInBounds k2 true) (n-(p.length+1))
theorem quiet_mono {S:World→Prop} {Q1 Q2:Act→Prop} (h:∀a,Q1 a→Q2 a):∀ {l:List Oper} {a:Act},wpQuiet P ops S Q1 l a→wpQuiet P ops S Q2 l a
 | [],_,k=>h _ k
 | o::r,a,k=>by
  unfold wpQuiet at k ⊢
  split
  ·rename_i hw;rw[if_pos hw]at k;obtain⟨v,h1,h2⟩:=k;exact⟨v,h1,quiet_mono h h2⟩
  ·rename_i hw;rw[if_neg hw]at k;exact quiet_mono h k
theorem any_of_t (hs:Region.noSelect ops=true) (hQ:∀c a d v w,Q (.panic c) (a.put d v) w→Q (.panic c) a w) :
  ∀(t:Ph) (S:World→Prop) (listed:Array Bool) (a:Act) (w:World) (n:Nat),tB md ops t listed n=true→S w→wpT P ops Q t S a w→wpAnyH P md ops Q S n listed a w
 | .fin last,S,listed,a,w,n,hb,hS,h=>by
  unfold tB at hb
  simp only[Bool.and_eq_true,List.isEmpty_iff,beq_iff_eq]at hb
  obtain⟨⟨h1,h2⟩,rfl⟩:=hb
  have e:last.length=last.length+0:=rfl
  rw[e]
  refine still_block hs hQ hS 0 last listed a h1 ?_
  exact quiet_mono (fun a' hq=>wpAnyH_done h2 hq 0) h
 | .one p k t,S,listed,a,w,n,hb,hS,h=>by
  unfold tB at hb
  simp only[Bool.and_eq_true,decide_eq_true_iff]at hb
  obtain⟨⟨⟨⟨h1,h2⟩,h3⟩,h5⟩,h4⟩:=hb
  obtain⟨o,ho⟩:=Option.isSome_iff_exists.1 h3
  have hrd:Region.ready md ops (marked p listed)=[k]:=by
   split at h2
   ·rename_i j hj;rw[hj];rw[beq_iff_eq]at h2;rw[h2]
   ·cases h2
  obtain⟨m,rfl⟩:∃m,n=p.length+(m+1):=⟨n-(p.length+1),by omega⟩
  rw[show p.length+(m+1)-(p.length+1)=m by omega]at h4
  refine still_block hs hQ hS _ p listed a h1 ?_
  unfold wpT at h
  refine quiet_mono (fun a' hq=>?_) h
  refine wpAnyH_all hrd (by simp) fun i hi=>?_
  rw[List.mem_singleton]at hi
  subst hi
  refine wpOp_step ho fun K' hK=>?_
  rw[ho]at hq
  refine hq K' fun a2 w2 h6 S' hS' hS2 h7=>hK _ _ ⟨h6,?_⟩
  exact anyH_mono hS' _ _ _ _ (any_of_t hs hQ t S' _ a2 w2 _ h4 hS2 h7)
 | .two p k t k2 t2,S,listed,a,w,n,hb,hS,h=>by
  unfold tB at hb
  simp only[Bool.and_eq_true,decide_eq_true_iff]at hb
  obtain⟨⟨⟨⟨⟨⟨h1,h2⟩,h3⟩,h32⟩,h5⟩,h4⟩,h42⟩:=hb
  obtain⟨o,ho⟩:=Option.isSome_iff_exists.1 h3
  obtain⟨o2,ho2⟩:=Option.isSome_iff_exists.1 h32
  have hrd:Region.ready md ops (marked p listed)=[k,k2]:=by
   split at h2
   ·rename_i j j2 hj;rw[hj];simp only[Bool.and_eq_true,beq_iff_eq]at h2;rw[h2.1,h2.2]
   ·cases h2
  obtain⟨m,rfl⟩:∃m,n=p.length+(m+1):=⟨n-(p.length+1),by omega⟩
  rw[show p.length+(m+1)-(p.length+1)=m by omega]at h4 h42
  refine still_block hs hQ hS _ p listed a h1 ?_
  unfold wpT at h
  refine quiet_mono (fun a' hq=>?_) h
  refine wpAnyH_all hrd (by simp) fun i hi=>?_
  rw[ho,ho2]at hq
  rcases List.mem_cons.1 hi with rfl|hi
  ·refine wpOp_step ho fun K' hK=>?_
   refine hq.1 K' fun a2 w2 h6 S' hS' hS2 h7=>hK _ _ ⟨h6,?_⟩
   exact anyH_mono hS' _ _ _ _ (any_of_t hs hQ t S' _ a2 w2 _ h4 hS2 h7)
  ·rw[List.mem_singleton]at hi
   subst hi
   refine wpOp_step ho2 fun K' hK=>?_
   refine hq.2 K' fun a2 w2 h6 S' hS' hS2 h7=>hK _ _ ⟨h6,?_⟩
   exact anyH_mono hS' _ _ _ _ (any_of_t hs hQ t2 S' _ a2 w2 _ h42 hS2 h7)
theorem region_tree {id:Nat} {a:Act} {w:World} {l:List Oper} (S:World→Prop) (t:Ph) (hm:P.follows .mixedOrders=true)
  (hB:(Region.noSelect l.toArray&&tB .any l.toArray t (Array.replicate l.toArray.size false) l.toArray.size)=true)
  (hQ:∀c a d v w,Q (.panic c) (a.put d v) w→Q (.panic c) a w) (hS:S w.drew)
  (h:wpT P l.toArray Q t S a w.drew):(Code.region id l.toArray true).wp P Q a w:=by
 simp only[Bool.and_eq_true]at hB
 refine wp_region_held (S:=S) hm ?_
 exact any_of_t hB.1 hQ t S _ a w.drew _ hB.2 hS h
end
def OnR (R:Nat) (w:World):Type:={x:World // w.grownBy x (some R)}
instance (R:Nat) (w:World):Nonempty (OnR R w):=⟨⟨w,World.grownBy.refl _ _⟩⟩
def OnB (g:Nat) (w:World):Type:={x:World // x.heap[g]?=w.heap[g]?}
instance (g:Nat) (w:World):Nonempty (OnB g w):=⟨⟨w,rfl⟩⟩
end Go.Calm
namespace Go.Proofs.YtkfelkpilaipnaaGreatDoor
set_option maxRecDepth 100000
set_option maxHeartbeats 40000000
open Go.RowKit
def zbh (L:List Int):Option Tok→List Value
 | none=>[.string ⟨#[]⟩,.complex .f64 0 0]
 | some t=>bB L t
def aX (L:List Int) (p:Y.Prd) (A:Option Addr) (c:Nat):List Value:=bB L p.l++[.slice A p.r.length c]++zbh L p.p
def zao (d:Y.Dcl) (A:Option Addr) (c:Nat):List Value:=[.int .i64 d.k,.slice A d.ns.length c]
abbrev PA:=Y.Prd×Option Addr×Nat
abbrev DA:=Y.Dcl×Option Addr×Nat
def zk0 (L:List Int) (qs:List PA):List Value:=qs.flatMap fun q=>aX L q.1 q.2.1 q.2.2
def zlj (qs:List DA):List Value:=qs.flatMap fun q=>zao q.1 q.2.1 q.2.2
theorem zc1 (L:List Int) (p:Y.Prd) (A:Option Addr) (c:Nat):(aX L p A c).length=5:=by
 unfold aX zbh
 split <;> rfl
theorem zko (L:List Int) (qs:List PA) (i j:Nat) (hi:i<qs.length) (hj:j<5):(zk0 L qs)[i*5+j]?=(aX L qs[i].1 qs[i].2.1 qs[i].2.2)[j]?:=by
 unfold zk0
 induction qs generalizing i with
 | nil=>simp at hi
 | cons x r ih =>
  rw[List.flatMap_cons]
  have hl:=zc1 L x.1 x.2.1 x.2.2
  cases i with
  | zero=>rw[List.getElem?_append_left (by omega)];simp
  | succ i =>
   rw[List.getElem?_append_right (by omega),hl,show(i+1)*5+j-5=i*5+j by omega]
   simpa using ih i (by simpa using hi)
theorem zim (qs:List DA) (i j:Nat) (hi:i<qs.length) (hj:j<2):(zlj qs)[i*2+j]?=(zao qs[i].1 qs[i].2.1 qs[i].2.2)[j]?:=by
 unfold zlj
 induction qs generalizing i with
 | nil=>simp at hi
 | cons x r ih =>
  rw[List.flatMap_cons]
  have hl:(zao x.1 x.2.1 x.2.2).length=2:=rfl
  cases i with
  | zero=>rw[List.getElem?_append_left (by omega)];simp
  | succ i =>
   rw[List.getElem?_append_right (by omega),hl,show(i+1)*2+j-2=i*2+j by omega]
   simpa using ih i (by simpa using hi)
def bG (L:List Int) (w:World) (base:Nat) (v:Value) (ps:List Y.Prd):Prop :=
 ∃qs:List PA,qs.map (·.1)=ps∧w.ownsRow base 104 5 v ps.length (zk0 L qs)∧∀q∈qs,RdR L w base q.2.1 q.1.r
def bI (L:List Int) (w:World) (base:Nat) (v:Value) (ds:List Y.Dcl):Prop :=
 ∃qs:List DA,qs.map (·.1)=ds∧w.ownsRow base 131 2 v ds.length (zlj qs)∧∀q∈qs,RdR L w base q.2.1 q.1.ns
theorem bG.nil (L:List Int) (w:World) (base:Nat):bG L w base (.slice none 0 0) []:=⟨[],rfl,World.ownsRow_nil w base _ _,fun q h=>by cases h⟩
theorem bI.nil (L:List Int) (w:World) (base:Nat):bI L w base (.slice none 0 0) []:=⟨[],rfl,World.ownsRow_nil w base _ _,fun q h=>by cases h⟩
def bM (w:World) (v:Value) (row:Option Nat):Prop:=bA w row∧(v.ownBlock=none∨v.ownBlock≠row)
theorem bM.none (w:World) (v:Value):bM w v .none:=⟨bA.none w,by rcases v.ownBlock with _|k;exact .inl rfl;exact .inr (by simp)⟩
theorem bG.grown {L:List Int} {w w':World} {base:Nat} {v:Value} {ps:List Y.Prd} {row:Option Nat} (h:bG L w base v ps) (hg:w.grownBy w' row) (ha:bM w v row):bG L w' base v ps:=by
 obtain⟨qs,h1,h2,h3⟩:=h
 exact⟨qs,h1,h2.kept hg ha.2,fun q hq=>(h3 q hq).grown hg ha.1⟩
theorem bI.grown {L:List Int} {w w':World} {base:Nat} {v:Value} {ds:List Y.Dcl} {row:Option Nat} (h:bI L w base v ds) (hg:w.grownBy w' row) (ha:bM w v row):bI L w' base v ds:=by
 obtain⟨qs,h1,h2,h3⟩:=h
 exact⟨qs,h1,h2.kept hg ha.2,fun q hq=>(h3 q hq).grown hg ha.1⟩
theorem bG.away {L:List Int} {w:World} {base:Nat} {v:Value} {ps:List Y.Prd} {B R px py:Nat} {ts:List Tok} (h:bG L w base v ps) (hr:Rdr L B R px py w ts) (hb:R<base):bM w v (some R):=by
 refine⟨hr.other,?_⟩
 obtain⟨qs,h1,h2,h3⟩:=h
 rcases hv:v.ownBlock with _|k
 ·exact .inl rfl
 ·have:=(World.ownsRow.lt h2 k hv).1
  exact .inr (fun e=>by injection e with e;omega)
theorem bI.away {L:List Int} {w:World} {base:Nat} {v:Value} {ds:List Y.Dcl} {B R px py:Nat} {ts:List Tok} (h:bI L w base v ds) (hr:Rdr L B R px py w ts) (hb:R<base):bM w v (some R):=by
 refine⟨hr.other,?_⟩
 obtain⟨qs,h1,h2,h3⟩:=h
 rcases hv:v.ownBlock with _|k
 ·exact .inl rfl
 ·have:=(World.ownsRow.lt h2 k hv).1
  exact .inr (fun e=>by injection e with e;omega)
theorem zaA {w:World} {base:Nat} {v:Value} {n:Nat} {size:Nat} {e:TypeId} {xs:List Value} (h:w.ownsRow base e size v n xs) (he:e≠90):bA w v.ownBlock:=by
 intro k hk cur hc
 rcases h.2 with⟨rfl,_⟩|⟨g,cap,cur',rfl,_,hg,_⟩
 ·cases hk
 ·injection hk with hk
  subst hk
  have hg':w.heap[g]?=some (.cells cur 90 (0,0)):=hc
  rw[hg]at hg'
  injection hg' with e1
  injection e1 with _ e2
  exact he e2
theorem bG.form {L:List Int} {w:World} {base:Nat} {v:Value} {ps:List Y.Prd} (h:bG L w base v ps):∃A c,v=.slice A ps.length c∧ps.length≤c∧c≤maxLen:=by
 obtain⟨qs,h1,h2,h3⟩:=h
 rcases h2.2 with⟨rfl,h0⟩|⟨g,cap,cur,rfl,hb,hg,hn,hm,hs,ht⟩
 ·exact⟨none,0,by rw[h0],by omega,by unfold maxLen;omega⟩
 ·exact⟨_,cap,rfl,hn,hm⟩
theorem bI.form {L:List Int} {w:World} {base:Nat} {v:Value} {ds:List Y.Dcl} (h:bI L w base v ds):∃A c,v=.slice A ds.length c∧ds.length≤c∧c≤maxLen:=by
 obtain⟨qs,h1,h2,h3⟩:=h
 rcases h2.2 with⟨rfl,h0⟩|⟨g,cap,cur,rfl,hb,hg,hn,hm,hs,ht⟩
 ·exact⟨none,0,by rw[h0],by omega,by unfold maxLen;omega⟩
 ·exact⟨_,cap,rfl,hn,hm⟩
theorem zlI:(Tryz.prog.info? 104).map (fun i=>(i.zero,i.size,i.bytes))=some (some (.agg #[.string ⟨#[]⟩,.complex .f64 0 0,.slice none 0 0,.string ⟨#[]⟩,.complex .f64 0 0]),5,88):=by kernel_rfl
theorem zlJ:(Tryz.prog.info? 131).map (fun i=>(i.zero,i.size,i.bytes))=some (some (.agg #[.int .i64 0,.slice none 0 0]),2,32):=by kernel_rfl
theorem zgm (L:List Int) (p:Y.Prd) (A:Option Addr) (c:Nat):∀u∈aX L p A c,u.oneCell'=true:=by
 intro u hu
 unfold aX zbh at hu
 split at hu <;> simp[bB]at hu <;> rcases hu with rfl|rfl|rfl|rfl|rfl <;> rfl
theorem zbN {w:World} {ops:Array Oper} {rest:List Oper} {o:Oper} {a:Act} {Q:Exit→Act→World→Prop}
  (hgd:o.guard=none) (s x:Operand) (t:TypeId) (ho:o.op=.call {callee:=.builtin .append,args:=#[s,x],argTypes:=#[t,t]}) (ht:Tryz.prog.underlying t=some (.slice 104))
  (L:List Int) (base:Nat) (v:Value) (ps:List Y.Prd) (hs:a.eval s=v) (hown:bG L w base v ps) (g c:Nat) (p:Y.Prd) (A:Option Addr) (pc:Nat) (hx:a.eval x=.slice (some ⟨g,0,none⟩) 1 c) (hz:∀j u,(aX L p A pc)[j]?=some u→w.cell? ⟨g,j,none⟩=some u) (hr:RdR L w base A p.r)
  (hlen:ps.length≤1000000) (hbase:base≤w.heap.size)
  (hK:∀v' w',bG L w' base v' (ps++[p])→w.grownBy w' v.ownBlock→wpList Tryz.prog ops Q rest (a.put o.dst v') w') :
  wpList Tryz.prog ops Q (o::rest) a w:=by
 obtain⟨i,hi,hz0,hz1,hz2⟩:=info_parts zlI
 obtain⟨qs,hq1,hq2,hq3⟩:=hown
 have hlq:qs.length=ps.length:=by rw[←hq1,List.length_map]
 refine wpList_append_own w hgd s x t ho base 104 i _ 5 88 ht hi hz0 hz1 hz2 rfl (by decide) v ps.length (zk0 L qs) hs hq2 ⟨g,0,none⟩ 1 c (aX L p A pc) hx (by rw[zc1]) ?_ (zgm L p A pc) (by unfold maxLen;omega) (by omega) hbase fun v' w' h1 h2 _=>hK v' w' ?_ h2
 ·intro j u hj
  rw[zdP,Nat.zero_add]
  exact hz j u hj
 ·have ho:=zaA hq2 (by decide)
  refine⟨qs++[(p,A,pc)],by rw[List.map_append,hq1];rfl,?_,fun q hq=>?_⟩
  ·rw[List.length_append]
   unfold zk0
   rw[List.flatMap_append,List.flatMap_singleton]
   exact h1
  ·rcases List.mem_append.1 hq with h|h
   ·exact(hq3 q h).grown h2 ho
   ·rw[List.mem_singleton]at h
    subst h
    exact hr.grown h2 ho
def VPrd (L:List Int) (base:Nat) (p:Y.Prd) (v:Value) (w:World):Prop:=∃A c,v=.agg (aX L p A c).toArray∧RdR L w base A p.r
def VDcl (L:List Int) (base:Nat) (d:Y.Dcl) (v:Value) (w:World):Prop:=∃A c,v=.agg #[.int .i64 d.k,.slice A d.ns.length c]∧RdR L w base A d.ns
theorem aE (w:World) (row:Option Nat):w.grownBy w.drew row:=⟨rfl,rfl,rfl,Nat.le_refl _,fun _ _ _=>rfl⟩
theorem Rdr.row {L:List Int} {B R px py:Nat} {w w':World} {ts:List Tok} (h:Rdr L B R px py w ts) (hg:w.grownBy w' .none):Rdr L B R px py w' ts:=h.grown hg (fun _ e=>by cases e)
theorem Rdr.drew {L:List Int} {B R px py:Nat} {w:World} {ts:List Tok} (h:Rdr L B R px py w ts):Rdr L B R px py w.drew ts:=h.row (aE w _)
theorem aK {w w2:World} {g R:Nat} {o:Obj} (h:w.grownBy w2 (some R)) (ho:w.heap[g]?=some o) (hne:g≠R):w2.heap[g]?=some o:=by
 rw[h.block g (Array.getElem?_eq_some_iff.1 ho).1 (fun e=>by injection e with e;omega)];exact ho
theorem zac {w:World} {g:Nat} {cs:Array Value} {t:TypeId} (h:w.heap[g]?=some (.cells cs t (0,0))) (ht:t≠90):bA w (some g):=by
 intro k hk cur hc
 injection hk with hk
 subst hk
 rw[h]at hc
 injection hc with hc
 injection hc with _ hc
 exact ht hc
theorem za6 (L:List Int) (p:Option Tok):∃x3 x4,zbh L p=[x3,x4]:=by cases p <;> exact⟨_,_,rfl⟩
theorem zas {w w':World} {g:Nat} {cs:Array Value} {row:Option Nat} (h:w.heap[g]?=some (.cells cs 90 (0,0))) (hg:w.grownBy w' row) (ho:bA w row):w'.heap[g]?=some (.cells cs 90 (0,0)) :=
 (hg.block g (Array.getElem?_eq_some_iff.1 h).1 (fun e=>ho g e.symm cs h)).trans h
theorem bG.own {L:List Int} {w:World} {base:Nat} {v:Value} {ps:List Y.Prd} (h:bG L w base v ps):∃xs,w.ownsRow base 104 5 v ps.length xs:=by
 obtain⟨qs,_,h2,_⟩:=h;exact⟨_,h2⟩
theorem bI.own {L:List Int} {w:World} {base:Nat} {v:Value} {ds:List Y.Dcl} (h:bI L w base v ds):∃xs,w.ownsRow base 131 2 v ds.length xs:=by
 obtain⟨qs,_,h2,_⟩:=h;exact⟨_,h2⟩
theorem bG.other {L:List Int} {w:World} {base:Nat} {v:Value} {ps:List Y.Prd} (h:bG L w base v ps):bA w v.ownBlock:=by
 obtain⟨xs,h2⟩:=h.own;exact zaA h2 (by decide)
theorem bI.other {L:List Int} {w:World} {base:Nat} {v:Value} {ds:List Y.Dcl} (h:bI L w base v ds):bA w v.ownBlock:=by
 obtain⟨xs,h2⟩:=h.own;exact zaA h2 (by decide)
theorem zdI (p:Tok→Bool):∀ts:List Tok,(ts.dropWhile p).length≤ts.length
 | []=>Nat.le_refl _
 | t::r=>by
  have:=zdI p r
  rw[List.dropWhile_cons]
  split
  ·simp;omega
  ·exact Nat.le_refl _
theorem zdt {left:Tok} {ts r:List Tok} {p:Y.Prd} (h:Y.rule left ts=.ok p r):r.length≤ts.length:=by
 unfold Y.rule Y.rule2 at h
 have hd:=zdI Y.isRef ts
 split at h
 ·obtain⟨t,m,h1,h2⟩:=Y.bind_eq_ok h
  obtain⟨u,m2,h3,h4⟩:=Y.bind_eq_ok h2
  injection h4 with _ h5
  subst h5
  have e1:=congrArg List.length (Y.take_ok h1).1
  have e2:=congrArg List.length (Y.take_ok h3).1
  simp at e1 e2
  omega
 ·injection h with _ h5
  subst h5
  exact hd
theorem zjK {w:World} {g:Nat} {t:TypeId} {a0 a1 a2 a3 a4:Value} (h:w.heap[g]?=some (.cells #[a0,a1,a2,a3,a4] t (0,0))) (b0 b1 b2 b3 b4:Value) :
  (((((w.setCell ⟨g,0,none⟩ b0).setCell ⟨g,1,none⟩ b1).setCell ⟨g,2,none⟩ b2).setCell ⟨g,3,none⟩ b3).setCell ⟨g,4,none⟩ b4).heap[g]?=some (.cells #[b0,b1,b2,b3,b4] t (0,0)):=by
 have h0:=heap_setCell_same w g 0 _ _ b0 h
 have h1:=heap_setCell_same _ g 1 _ _ b1 h0
 have h2:=heap_setCell_same _ g 2 _ _ b2 h1
 have h3:=heap_setCell_same _ g 3 _ _ b3 h2
 have h4:=heap_setCell_same _ g 4 _ _ b4 h3
 exact h4
theorem zjL {w:World} {g:Nat} {t:TypeId} {a0 a1:Value} (h:w.heap[g]?=some (.cells #[a0,a1] t (0,0))) (b0 b1:Value) :
  ((w.setCell ⟨g,0,none⟩ b0).setCell ⟨g,1,none⟩ b1).heap[g]?=some (.cells #[b0,b1] t (0,0)):=by
 have h0:=heap_setCell_same w g 0 _ _ b0 h
 have h1:=heap_setCell_same _ g 1 _ _ b1 h0
 exact h1
theorem aT (w:World) (p:Addr) (u:Value):(w.setCell p u).heap.size=w.heap.size:=by simp[World.setCell]
end Go.Proofs.YtkfelkpilaipnaaGreatDoor
