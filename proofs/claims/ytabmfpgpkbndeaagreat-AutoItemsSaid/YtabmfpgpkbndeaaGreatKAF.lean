/- Part of the proofs over this program: Ref7, YaccList, BldW, Ref8G, Ref8D, Ref7S. -/
import Derived.Test.YtabmfpgpkbndeaaGreatKAE
namespace Go.Proofs.YtabmfpgpkbndeaaGreat
set_option maxRecDepth 100000
set_option maxHeartbeats 40000000
open Go.RowKit
theorem za5 (w:World) (A:Option Addr) (c n i j:Nat) (h1:i≤j) (h2:j≤c):(Instr.sliceAt 58 (.slice A n c) (some (.int .i64 i)) (some (.int .i64 j)) none).run Tryz.prog w=.ok (.slice (dropA A c i) (j-i) (c-i)) w:=by
 rw[run_sliceAt_slice _ _ _ _ _ _ (by kernel_rfl),run_slice_lh _ _ _ _ _ (by kernel_rfl) .i64 .i64 (i:Int) (j:Int) (by omega) (by omega) (by omega)]
 have hs:(sizeOf (Tryz.prog.elem 58)).run Tryz.prog w=.ok 1 w:=by kernel_rfl
 rw[hs]
 simp[Result.andThen,sliced,dropA]
namespace T
theorem str_list (l:List Int):(K.str l).toList=Lib.bytesOf l:=by
 rw[ByteArray.toList_eq];rfl
theorem pre_take (l s:List Int):pre l s=((K.str (l.take s.length)).toList==(K.str s).toList):=by
 rw[str_list,str_list]
 have e:Lib.bytesOf (l.take s.length)=(Lib.bytesOf l).take (Lib.bytesOf s).length:=by simp[Lib.bytesOf,List.map_take]
 rw[e]
 unfold pre Lib.hasPrefix
 rw[Bool.eq_iff_iff,List.isPrefixOf_iff_prefix,beq_iff_eq,List.prefix_iff_eq_take,eq_comm]
theorem pre_short (l s:List Int) (h:l.length<s.length):pre l s=false:=by
 rcases hp:pre l s with _|_
 ·rfl
 ·have:=zb5 l s hp;omega
theorem ix_cons (z:Int) (r s:List Int):ix (z::r) s=if pre (z::r) s then 0 else if ix r s<0 then -1 else ix r s+1:=by
 unfold ix pre Lib.hasPrefix
 rw[show Lib.bytesOf (z::r)=UInt8.ofNat z.toNat::Lib.bytesOf r from rfl,Lib.index]
 have:=Lib.index_ge (Lib.bytesOf r) (Lib.bytesOf s)
 split
 ·rfl
 ·by_cases h:Lib.index (Lib.bytesOf r) (Lib.bytesOf s) = -1
  ·rw[h];simp
  ·have h1:(Lib.index (Lib.bytesOf r) (Lib.bytesOf s) == -1)=false:=by simpa using h
   rw[h1]
   simp only[Bool.false_eq_true,if_false]
   rw[if_neg (by omega)]
theorem ix_nil (s:List Int) (h:s.length≠0):ix [] s = -1:=by
 cases s with
 | nil=>simp at h
 | cons a b=>rfl
theorem ix_next (l s:List Int) (k:Nat) (h:k<l.length):ix (l.drop k) s=if pre (l.drop k) s then 0 else if ix (l.drop (k+1)) s<0 then -1 else ix (l.drop (k+1)) s+1:=by
 rw[L.cons_drop l k h,ix_cons]
end T
theorem zaT (A:Option Addr) (c B:Nat) (l s:List Int) (k:Nat) (w:World) (hr:RdB w B A l) (hl:K.Bytes l) (hc:l.length≤c) (hn:l.length≤5000) (hk:k≤l.length) (hs:s.length≤5000) :
  Calls Tryz.prog 137 #[.slice A l.length c,.int .i64 k,.string (K.str s)] w fun e w'=>e=.returned (.bool (T.pre (l.drop k) s))∧w=w':=by
 have hsz:=K.str_size s
 by_cases h:k+s.length≤l.length
 ·have hp:=T.pre_take (l.drop k) s
  have C1:=zbi (((hr.dropA hc k).take s.length)) ((hl.drop k).take s.length) (c-k)
  have S1:=fun w=>za5 w A c l.length k (k+s.length) (by omega) (by omega)
  rw[List.length_take,List.length_drop,Nat.min_eq_left (by omega)]at C1
  rw[show k+s.length-k=s.length by omega]at S1
  have hsz2:(k:Int)+((K.str s).size:Int)=((k+s.length:Nat):Int):=by rw[hsz];omega
  have h1:((k+s.length:Nat):Int)≤(l.length:Int):=by omega
  have HP:=aA hp
  clear hp hsz hr hl hk hs hc
  generalize T.pre (l.drop k) s=pb at *
  generalize K.str (List.take s.length (List.drop k l))=st at *
  generalize K.str s=s2 at *
  generalize k+s.length=m at *
  generalize dropA A c k=D at *
  generalize c-k=c2 at *
  generalize s.length=sl at *
  go_enter Tryz.func137,Tryz.ntmps137
  go_wp2_with (first|simp only[S1]|simp only[C1])
  go_ret
  exact⟨aC HP.out.symm,rfl⟩
 ·rw[T.pre_short (l.drop k) s (by rw[List.length_drop];omega)]
  have h1:¬(k:Int)+((K.str s).size:Int)≤(l.length:Int):=by rw[hsz];omega
  have h2:(k:Int)+((K.str s).size:Int)≤20000:=by rw[hsz];omega
  have h3:0≤(k:Int)+((K.str s).size:Int):=by omega
  clear hr hl hk hs hc hsz
  generalize K.str s=s2 at *
  go_enter Tryz.func137,Tryz.ntmps137
  go_wp2
  go_ret
  exact⟨rfl,rfl⟩
def T.pastV (l s:List Int) (k:Nat):Int:=if T.ix (l.drop k) s<0 then -1 else k+T.ix (l.drop k) s+s.length
theorem T.pastV_on (l s:List Int) (k:Nat) (h:k<l.length) (hp:T.pre (l.drop k) s=false):T.pastV l s k=T.pastV l s (k+1):=by
 unfold T.pastV
 have hx:=T.ix_next l s k h
 rw[hp]at hx
 simp only[Bool.false_eq_true,if_false]at hx
 have hg:=T.ix_ge (l.drop (k+1)) s
 by_cases h1:T.ix (l.drop (k+1)) s<0
 ·rw[if_pos h1]at hx
  rw[if_pos (by omega),if_pos h1]
 ·rw[if_neg h1]at hx
  rw[if_neg (by omega),if_neg h1,hx]
  simp only[Int.natCast_add]
  omega
theorem T.pastV_here (l s:List Int) (k:Nat) (h:k<l.length) (hp:T.pre (l.drop k) s=true):T.pastV l s k=k+s.length:=by
 unfold T.pastV
 have hx:=T.ix_next l s k h
 rw[hp,if_pos rfl]at hx
 rw[hx];simp
theorem T.pastV_end (l s:List Int) (k:Nat) (h:l.length≤k) (hs:s.length≠0):T.pastV l s k = -1:=by
 unfold T.pastV
 rw[List.drop_eq_nil_of_le h,T.ix_nil s hs];rfl
theorem zbY (A:Option Addr) (c B:Nat) (l s:List Int) (k:Nat) (w:World) (hr:RdB w B A l) (hl:K.Bytes l) (hc:l.length≤c) (hn:l.length≤5000) (hk:k≤6000) (hs:s.length≤5000) (hs0:s.length≠0) :
  Calls Tryz.prog 138 #[.slice A l.length c,.int .i64 k,.string (K.str s)] w fun e w'=>e=.returned (.int .i64 (T.pastV l s k))∧w=w':=by
 have HP:=aA (fun(j:Nat) (h:j≤l.length)=>zaT A c B l s j w hr hl hc hn h hs)
 have hsz:=aA (K.str_size s)
 have HE:=aA (fun j h=>T.pastV_end l s j h hs0)
 have HH:=aA (T.pastV_here l s)
 have HO:=aA (T.pastV_on l s)
 clear hr hl hc hs0
 go_enter Tryz.func138,Tryz.ntmps138
 go_wp2
 go_loop [1] (fun vi=>∃(j:Nat),j≤6000∧vi=.int .i64 j∧T.pastV l s j=T.pastV l s k) (fun vi=>6001-(intOf vi).toNat)
 case atStart=>exact⟨k,hk,rfl,rfl⟩
 case round =>
  obtain⟨j,hj,rfl,he⟩:=hrel
  have HV:=aA he
  clear he
  by_cases hlt:j<l.length
  ·have HPj:=aA (HP.out j (by omega))
   rcases hb:T.pre (l.drop j) s with _|_
   ·rw[hb]at HPj
    have HN:=aA (HO.out j hlt hb)
    clear hb HP HE HH HO
    go_wp2_with fail
    refine HPj.out.mono ?_;rintro _ w' ⟨rfl,rfl⟩
    go_wp2
    go_round
    case rel=>exact⟨j+1,by omega,by go_num,by rw[←HV.out,HN.out]⟩
    case measure=>simp[intOf];omega
   ·rw[hb]at HPj
    have HN:=aA (HH.out j hlt hb)
    clear hb HP HE HH HO
    have hsz2:=hsz.out
    have hb1:(j:Int)+((K.str s).size:Int)≤20000:=by rw[hsz2];omega
    have HZ:=aA hsz2
    clear hsz2 hsz
    generalize K.str s=s2 at *
    go_wp2_with fail
    refine HPj.out.mono ?_;rintro _ w' ⟨rfl,rfl⟩
    go_wp2
    go_ret
    exact⟨zal (by rw[←HV.out,HN.out,HZ.out]),rfl⟩
  ·have HN:=aA (HE.out j (by omega))
   clear HP HE HH HO
   go_wp2
   go_ret
   exact⟨zal (by rw[←HV.out,HN.out]),rfl⟩
theorem T.line_cons (z:Int) (r:List Int) (hb:K.Bytes (z::r)):T.line (z::r)=if z=10 then [] else z::T.line r:=by
 have hp:T.pre (z::r) [10]=decide (z=10):=by
  unfold T.pre Lib.hasPrefix
  simp only[Lib.bytesOf,List.map_cons,List.map_nil,List.isPrefixOf,Bool.and_true]
  have:=hb.hd
  rw[Bool.eq_iff_iff,decide_eq_true_iff,beq_iff_eq]
  constructor
  ·intro h
   have:=congrArg UInt8.toNat h
   simp at this
   omega
  ·rintro rfl;rfl
 have hx:=T.ix_cons z r [10]
 have hg:=T.ix_ge r [10]
 rw[hp]at hx
 unfold T.line
 by_cases h:z=10
 ·rw[if_pos h]
  rw[decide_eq_true h,if_pos rfl]at hx
  rw[hx];rfl
 ·rw[if_neg h]
  rw[decide_eq_false h,if_neg (by simp)]at hx
  by_cases h1:T.ix r [10]<0
  ·rw[if_pos h1]at hx
   rw[if_neg (by omega),if_neg (by omega)]
  ·rw[if_neg h1]at hx
   rw[if_pos (by omega),if_pos (by omega),hx]
   rw[show(T.ix r [10]+1).toNat=(T.ix r [10]).toNat+1 by omega];rfl
theorem zdu (A:Option Addr) (c B:Nat) (l:List Int) (k:Nat) (w:World) (hr:RdB w B A l) (hl:K.Bytes l) (hn:l.length≤5000) (hk:k≤l.length) :
  Calls Tryz.prog 139 #[.slice A l.length c,.int .i64 k] w fun e w'=>e=.returned (.int .i64 ((k+(T.line (l.drop k)).length:Nat):Int))∧w=w':=by
 go_enter Tryz.func139,Tryz.ntmps139
 go_wp2
 go_loop [1] (fun vi=>∃(j:Nat),j≤l.length∧vi=.int .i64 j∧j+(T.line (l.drop j)).length=k+(T.line (l.drop k)).length) (fun vi=>l.length-(intOf vi).toNat)
 case atStart=>exact⟨k,hk,rfl,rfl⟩
 case round =>
  obtain⟨j,hj,rfl,he⟩:=hrel
  have HV:=aA he
  clear he
  by_cases hlt:j<l.length
  ·obtain⟨g,o,rfl,_,hcl⟩:=hr (by omega)
   have hcell:=hcl j (by omega)
   have hcd:=L.cons_drop l j hlt
   have hlc:=T.line_cons (l.getD j 0) (l.drop (j+1)) (hcd▸hl.drop j)
   rw[←hcd]at hlc
   have HL:=aA hlc
   clear hcl hr hl hcd hlc
   generalize l.getD j 0=z at *
   by_cases h10:z=10
   ·subst h10
    go_wp2
    go_ret
    exact⟨zal (by have h:=HV.out;have h2:=HL.out;simp only[if_true]at h2;rw[h2]at h;simp at h;omega),rfl⟩
   ·have h11:(z==10)=false:=by simpa using h10
    have HN:=aA h10
    clear h10
    go_wp2
    go_round
    case rel=>exact⟨j+1,by omega,by go_num,by rw[←HV.out,HL.out,if_neg HN.out];simp;omega⟩
    case measure=>simp[intOf];omega
  ·obtain rfl:j=l.length:=by omega
   clear hr hl
   go_wp2
   go_ret
   exact⟨zal (by have h:=HV.out;rw[List.drop_length,show T.line []=[] from rfl]at h;simp at h;omega),rfl⟩
def T.quoV (q:Int) (l:List Int) (k:Nat):Int:=match T.quoted q (l.drop k) with|none=>-1|some n=>k+n
theorem T.quoted_nil (q:Int):T.quoted q []=none:=by simp[T.quoted]
theorem T.quoV_end (q:Int) (l:List Int) (k:Nat) (h:l.length≤k):T.quoV q l k = -1:=by
 unfold T.quoV
 rw[List.drop_eq_nil_of_le h,T.quoted_nil]
theorem T.quoV_here (q:Int) (l:List Int) (k:Nat) (h:k<l.length) (hq:l.getD k 0=q):T.quoV q l k=k+1:=by
 unfold T.quoV
 rw[L.cons_drop l k h,hq]
 have:T.quoted q (q::l.drop (k+1))=some 1:=by unfold T.quoted;rw[if_pos rfl]
 rw[this];rfl
theorem T.quoV_on (q:Int) (l:List Int) (k:Nat) (h:k<l.length) (hq:¬l.getD k 0=q) (h92:¬l.getD k 0=92):T.quoV q l k=T.quoV q l (k+1):=by
 unfold T.quoV
 rw[L.cons_drop l k h]
 have:T.quoted q (l.getD k 0::l.drop (k+1))=(T.quoted q (l.drop (k+1))).map (· + 1):=by
  generalize l.drop (k+1)=r
  cases r with
  | nil =>
   rw[T.quoted_nil]
   have h1:T.quoted q [l.getD k 0]=none:=by
    generalize l.getD k 0=z at *
    simp[T.quoted,hq,h92]
   rw[h1];rfl
  | cons a b=>rw[T.quoted,if_neg hq,if_neg h92]
 rw[this]
 cases T.quoted q (l.drop (k+1)) with
 | none=>rfl
 | some n=>simp only[Option.map_some];omega
theorem T.quoV_two (q:Int) (l:List Int) (k:Nat) (h:k<l.length) (hq:¬l.getD k 0=q) (h92:l.getD k 0=92):T.quoV q l k=T.quoV q l (k+2):=by
 unfold T.quoV
 rw[L.cons_drop l k h]
 by_cases h2:k+1<l.length
 ·rw[L.cons_drop l (k+1) h2]
  have:T.quoted q (l.getD k 0::l.getD (k+1) 0::l.drop (k+1+1))=(T.quoted q (l.drop (k+2))).map (· + 2):=by
   rw[T.quoted,if_neg hq,if_pos h92]
  rw[this]
  cases T.quoted q (l.drop (k+2)) with
  | none=>rfl
  | some n=>simp only[Option.map_some];omega
 ·rw[List.drop_eq_nil_of_le (by omega:l.length≤k+1),List.drop_eq_nil_of_le (by omega:l.length≤k+2),T.quoted_nil]
  have:T.quoted q [l.getD k 0]=none:=by rw[T.quoted,if_neg hq,if_pos h92]
  rw[this]
theorem zdT (A:Option Addr) (c B:Nat) (l:List Int) (k:Nat) (w:World) (hr:RdB w B A l) (hn:l.length≤5000) (hk:k<l.length) :
  Calls Tryz.prog 165 #[.slice A l.length c,.int .i64 k] w fun e w'=>e=.returned (.int .i64 (T.quoV (l.getD k 0) l (k+1)))∧w=w':=by
 obtain⟨g,o,rfl,_,hcl⟩:=hr (by omega)
 have hcell0:=hcl k hk
 have HE:=aA (T.quoV_end (l.getD k 0) l)
 have HH:=aA (T.quoV_here (l.getD k 0) l)
 have HO:=aA (T.quoV_on (l.getD k 0) l)
 have HT:=aA (T.quoV_two (l.getD k 0) l)
 have HC:=aA hcl
 clear hcl hr
 generalize l.getD k 0=q at *
 go_enter Tryz.func165,Tryz.ntmps165
 go_wp2
 go_loop [1] (fun vi=>∃(j:Nat),j≤l.length+1∧vi=.int .i64 j∧T.quoV q l j=T.quoV q l (k+1)) (fun vi=>l.length+2-(intOf vi).toNat)
 case atStart=>exact⟨k+1,by omega,by go_num,rfl⟩
 case round =>
  clear hcell0
  obtain⟨j,hj,rfl,he⟩:=hrel
  have HV:=aA he
  clear he
  by_cases hlt:j<l.length
  ·have hcell:=HC.out j hlt
   by_cases hz:l.getD j 0=q
   ·have HN:=aA (HH.out j hlt hz)
    have hz':(l.getD j 0==q)=true:=by simpa using hz
    clear hz HE HH HO HT HC
    generalize l.getD j 0=z at *
    go_wp2
    go_ret
    exact⟨zal (by rw[←HV.out,HN.out]),rfl⟩
   ·have hz':(l.getD j 0==q)=false:=by simpa using hz
    by_cases h92:l.getD j 0=92
    ·have HN:=aA (HT.out j hlt hz h92)
     have h92':(l.getD j 0==92)=true:=by simpa using h92
     clear hz h92 HE HH HO HT HC
     generalize l.getD j 0=z at *
     go_wp2
     go_round
     case rel=>exact⟨j+2,by omega,by go_num,by rw[←HV.out,HN.out]⟩
     case measure=>simp[intOf];omega
    ·have HN:=aA (HO.out j hlt hz h92)
     have h92':(l.getD j 0==92)=false:=by simpa using h92
     clear hz h92 HE HH HO HT HC
     generalize l.getD j 0=z at *
     go_wp2
     go_round
     case rel=>exact⟨j+1,by omega,by go_num,by rw[←HV.out,HN.out]⟩
     case measure=>simp[intOf];omega
  ·have HN:=aA (HE.out j (by omega))
   clear HE HH HO HT HC
   go_wp2
   go_ret
   exact⟨zal (by rw[←HV.out,HN.out]),rfl⟩
theorem T.act_quo {f:Nat} {z:Int} {r:List Int} {o:Int} {m:Nat} (h:T.act f (z::r) o=some m) (hz:z=39∨z=34):∃f' q m',T.quoted z r=some q∧T.act f' (r.drop q) o=some m'∧m=m'+(q+1):=by
 cases f with
 | zero=>simp[T.act]at h
 | succ f =>
  rw[T.act]at h
  rw[if_pos hz]at h
  split at h
  ·cases h
  ·rename_i q hq
   rw[Option.map_eq_some_iff]at h
   obtain⟨m',h1,h2⟩:=h
   exact⟨f,q,m',hq,h1,h2.symm⟩
theorem T.act_on {f:Nat} {z:Int} {r:List Int} {o:Int} {m:Nat} (h:T.act f (z::r) o=some m) (hz:¬(z=39∨z=34)) (ho:0<T.ostep z o):∃f' m',T.act f' r (T.ostep z o)=some m'∧m=m'+1:=by
 cases f with
 | zero=>simp[T.act]at h
 | succ f =>
  rw[T.act]at h
  rw[if_neg hz,if_pos ho,Option.map_eq_some_iff]at h
  obtain⟨m',h1,h2⟩:=h
  exact⟨f,m',h1,h2.symm⟩
theorem T.act_end {f:Nat} {z:Int} {r:List Int} {o:Int} {m:Nat} (h:T.act f (z::r) o=some m) (hz:¬(z=39∨z=34)) (ho:¬0<T.ostep z o):m=1:=by
 cases f with
 | zero=>simp[T.act]at h
 | succ f =>
  rw[T.act]at h
  rw[if_neg hz,if_neg ho]at h
  exact(Option.some.inj h).symm
theorem T.act_nil {f:Nat} {o:Int} {m:Nat} (h:T.act f [] o=some m):False:=by
 cases f with
 | zero=>simp[T.act]at h
 | succ f=>rw[T.act]at h;cases h
theorem zdV (A:Option Addr) (c B:Nat) (l:List Int) (k n f0:Nat) (w:World) (hr:RdB w B A l) (hn:l.length≤5000) (hk:k<l.length) (hz:l.getD k 0=123) (ha:T.act f0 (l.drop k) 0=some n) :
  Calls Tryz.prog 140 #[.slice A l.length c,.int .i64 k] w fun e w'=>e=.returned (.int .i64 ((k+n:Nat):Int))∧w=w':=by
 have HQ:=aA (fun(j:Nat) (h:j<l.length)=>zdT A c B l j w hr hn h)
 have HA:=aA ha
 have HZ:=aA hz
 clear ha hz
 go_enter Tryz.func140,Tryz.ntmps140
 go_wp2
 go_loop [1,5] (fun vi vo=>∃(j f m:Nat) (o:Int),j≤l.length∧vi=.int .i64 j∧vo=.int .i64 o∧0≤o∧o+k≤j∧T.act f (l.drop j) o=some m∧j+m=k+n∧(o=0→l.getD j 0=123)) (fun vi _=>l.length-(intOf vi).toNat)
 case atStart=>exact⟨k,f0,n,0,by omega,rfl,rfl,by omega,by omega,HA.out,rfl,fun _=>HZ.out⟩
 case round =>
  clear HA HZ
  obtain⟨j,f,m,o,hj,rfl,rfl,ho,hok,hact,hm,h123⟩:=hrel
  have HM:=aA hm
  clear hm
  by_cases hlt:j<l.length
  ·obtain⟨g,o',rfl,_,hcl⟩:=hr (by omega)
   have hcell:=hcl j hlt
   have HQj:=aA (HQ.out j hlt)
   rw[L.cons_drop l j hlt]at hact
   have HACT:=aA hact
   clear hact HQ hcl hr
   have HD:Hid (∀q,(l.drop (j+1)).drop q=l.drop (j+1+q)):=aA (fun q=>by rw[List.drop_drop])
   by_cases hq:l.getD j 0=39∨l.getD j 0=34
   ·obtain⟨f',q,m',h1,h2,h3⟩:=T.act_quo HACT.out hq
    have hql:=T.quoted_le _ _ _ h1
    rw[List.length_drop]at hql
    have hv:T.quoV (l.getD j 0) l (j+1)=((j+1+q:Nat):Int):=by unfold T.quoV;rw[h1];simp only;omega
    rw[hv]at HQj
    rw[HD.out]at h2
    have H2:=aA h2
    have H3:=aA h3
    have ho1:¬o=0:=fun e=>by have:=h123 e;omega
    have ho2:(o==0)=false:=by simpa using ho1
    clear h1 h2 h3 hv HACT h123
    have hqq:(l.getD j 0==123)=false∧(l.getD j 0==125)=false:=by
     rcases hq with e|e <;> rw[e] <;> exact⟨rfl,rfl⟩
    obtain⟨q1,q2⟩:=hqq
    have hpos:0≤((j+1+q:Nat):Int):=by omega
    have hle:j+1+q≤l.length:=by omega
    rcases hq with hq|hq
    ·have q3:(l.getD j 0==39)=true:=by rw[hq];rfl
     clear hq
     generalize l.getD j 0=z at *
     generalize hx:j+1+q=x at *
     have HX:=aA hx
     clear hx
     go_wp2_with fail
     refine HQj.out.mono ?_;rintro _ w' ⟨rfl,rfl⟩
     go_wp2
     go_round
     case rel=>exact⟨x,f',m',o,by omega,rfl,rfl,ho,by have:=HX.out;omega,H2.out,by have:=H3.out;have:=HM.out;have:=HX.out;omega,fun e=>absurd e ho1⟩
     case measure=>have:=HX.out;simp[intOf];omega
    ·have q3:(l.getD j 0==39)=false:=by rw[hq];rfl
     have q4:(l.getD j 0==34)=true:=by rw[hq];rfl
     clear hq
     generalize l.getD j 0=z at *
     generalize hx:j+1+q=x at *
     have HX:=aA hx
     clear hx
     go_wp2_with fail
     refine HQj.out.mono ?_;rintro _ w' ⟨rfl,rfl⟩
     go_wp2
     go_round
     case rel=>exact⟨x,f',m',o,by omega,rfl,rfl,ho,by have:=HX.out;omega,H2.out,by have:=H3.out;have:=HM.out;have:=HX.out;omega,fun e=>absurd e ho1⟩
     case measure=>have:=HX.out;simp[intOf];omega
   ·have q3:(l.getD j 0==39)=false:=by simpa using fun e=>hq (.inl e)
    have q4:(l.getD j 0==34)=false:=by simpa using fun e=>hq (.inr e)
    have HON:=aA (T.act_on HACT.out hq)
    have HEN:=aA (T.act_end HACT.out hq)
    clear HACT hq HQj HD
    by_cases h1:l.getD j 0=123
    ·have q1:(l.getD j 0==123)=true:=by rw[h1];rfl
     have hs:T.ostep (l.getD j 0) o=o+1:=by unfold T.ostep;rw[if_pos h1]
     obtain⟨f',m',h2,h3⟩:=HON.out (by rw[hs];omega)
     rw[hs]at h2
     have H2:=aA h2
     have H3:=aA h3
     clear HON HEN h1 hs h2 h3 h123
     have ho2:(o+1==0)=false:=by rw[beq_eq_false_iff_ne];omega
     generalize l.getD j 0=z at *
     go_wp2
     go_round
     case rel=>exact⟨j+1,f',m',o+1,by omega,by go_num,by go_num,by omega,by omega,H2.out,by have:=H3.out;have:=HM.out;omega,fun e=>by omega⟩
     case measure=>simp[intOf];omega
    ·have q1:(l.getD j 0==123)=false:=by simpa using h1
     have ho1:¬o=0:=fun e=>h1 (h123 e)
     by_cases h5:l.getD j 0=125
     ·have q2:(l.getD j 0==125)=true:=by rw[h5];rfl
      have hs:T.ostep (l.getD j 0) o=o-1:=by unfold T.ostep;rw[if_neg h1,if_pos h5]
      by_cases h0:0<o-1
      ·obtain⟨f',m',h2,h3⟩:=HON.out (by rw[hs];omega)
       rw[hs]at h2
       have H2:=aA h2
       have H3:=aA h3
       clear HON HEN h1 h5 hs h2 h3 h123
       have ho2:(o-1==0)=false:=by rw[beq_eq_false_iff_ne];omega
       generalize l.getD j 0=z at *
       go_wp2
       go_round
       case rel=>exact⟨j+1,f',m',o-1,by omega,by go_num,by go_num,by omega,by omega,H2.out,by have:=H3.out;have:=HM.out;omega,fun e=>by omega⟩
       case measure=>simp[intOf];omega
      ·have hm1:=HEN.out (by rw[hs];omega)
       have H3:=aA hm1
       have ho3:o=1:=by omega
       subst ho3
       clear HON HEN h1 h5 hs hm1 h123 h0 ho1
       generalize l.getD j 0=z at *
       go_wp2
       go_ret
       exact⟨zal (by have:=HM.out;have:=H3.out;omega),rfl⟩
     ·have q2:(l.getD j 0==125)=false:=by simpa using h5
      have hs:T.ostep (l.getD j 0) o=o:=by unfold T.ostep;rw[if_neg h1,if_neg h5]
      obtain⟨f',m',h2,h3⟩:=HON.out (by rw[hs];omega)
      rw[hs]at h2
      have H2:=aA h2
      have H3:=aA h3
      clear HON HEN h1 h5 hs h2 h3 h123
      have ho2:(o==0)=false:=by simpa using ho1
      generalize l.getD j 0=z at *
      go_wp2
      go_round
      case rel=>exact⟨j+1,f',m',o,by omega,by go_num,rfl,by omega,by omega,H2.out,by have:=H3.out;have:=HM.out;omega,fun e=>absurd e ho1⟩
      case measure=>simp[intOf];omega
  ·exfalso
   rw[List.drop_eq_nil_of_le (by omega)]at hact
   exact T.act_nil hact
theorem bE.at {L:List Int} {w:World} {base:Nat} {v:Value} {ds:List Y.Dcl} (h:bE L w base v ds) (i:Nat) (hi:i<ds.length):∃D c A c',v=.slice (some ⟨D,0,none⟩) ds.length c∧w.cell? ⟨D,i*2,none⟩=some (.int .i64 ds[i].k)∧w.cell? ⟨D,i*2+1,none⟩=some (.slice A ds[i].ns.length c')∧RdR L w base A ds[i].ns:=by
 obtain⟨qs,rfl,h2,h3⟩:=h
 have hi':i<qs.length:=by simpa using hi
 rcases h2.2 with⟨_,h0⟩|⟨g,cap,cur,rfl,_⟩
 ·omega
 ·refine⟨g,cap,qs[i].2.1,qs[i].2.2,rfl,?_,?_,?_⟩
  ·have:=World.ownsRow.cells h2 (g:=g) rfl (i*2+0) _ (by rw[zgv qs i 0 hi' (by omega)];rfl)
   rw[zdH,Nat.zero_add]at this
   simpa using this
  ·have:=World.ownsRow.cells h2 (g:=g) rfl (i*2+1) _ (by rw[zgv qs i 1 hi' (by omega)];rfl)
   rw[zdH,Nat.zero_add]at this
   simpa using this
  ·have:=h3 qs[i] (List.getElem_mem hi')
   simpa using this
theorem bD.at {L:List Int} {w:World} {base:Nat} {v:Value} {ps:List Y.Prd} (h:bD L w base v ps) (i:Nat) (hi:i<ps.length):∃D c A c',v=.slice (some ⟨D,0,none⟩) ps.length c∧(∀j u,j<5→(aU L ps[i] A c')[j]?=some u→w.cell? ⟨D,i*5+j,none⟩=some u)∧RdR L w base A ps[i].r:=by
 obtain⟨qs,rfl,h2,h3⟩:=h
 have hi':i<qs.length:=by simpa using hi
 rcases h2.2 with⟨_,h0⟩|⟨g,cap,cur,rfl,_⟩
 ·omega
 ·refine⟨g,cap,qs[i].2.1,qs[i].2.2,rfl,fun j u hj hu=>?_,?_⟩
  ·have:=World.ownsRow.cells h2 (g:=g) rfl (i*5+j) u (by rw[zik L qs i j hi' hj];simpa using hu)
   rw[zdH,Nat.zero_add]at this
   exact this
  ·have:=h3 qs[i] (List.getElem_mem hi')
   simpa using this
namespace Y
end Y
theorem bJ.base_le {L:List Int} {w:World} {base base':Nat} {v:Value} {xs:List Tok} (h:bJ L w base v xs) (hb:base'≤base):bJ L w base' v xs:=by
 refine⟨h.1,?_⟩
 rcases h.2 with h0|⟨g,cap,cur,e,hb1,hr⟩
 ·exact .inl h0
 ·exact .inr ⟨g,cap,cur,e,by omega,hr⟩
def tmC (t:Gm.Tm):List Value:=[.string (K.str t.nm),.int .i64 t.lv,.int .i64 t.wy]
def zdP (ts:List Gm.Tm):List Value:=ts.flatMap tmC
def ziP (ns:List (List Int)):List Value:=ns.map fun s=>.string (K.str s)
abbrev RA:=Gm.Rl×Option Addr×Nat
def rlC (q:RA):List Value:=[.int .i64 q.1.l,.slice q.2.1 q.1.r.length q.2.2,.int .i64 q.1.p]
def ziO (qs:List RA):List Value:=qs.flatMap rlC
theorem zbg {α:Type} (f:α→List Value) (hf:∀x,(f x).length=3) (xs:List α) (i j:Nat) (hi:i<xs.length) (hj:j<3):(xs.flatMap f)[i*3+j]?=(f xs[i])[j]?:=by
 induction xs generalizing i with
 | nil=>simp at hi
 | cons x r ih =>
  rw[List.flatMap_cons]
  have hl:=hf x
  cases i with
  | zero=>rw[List.getElem?_append_left (by omega)];simp
  | succ i =>
   rw[List.getElem?_append_right (by omega),hl,show(i+1)*3+j-3=i*3+j by omega]
   simpa using ih i (by simpa using hi)
theorem zdl {α:Type} (f:α→List Value) (hf:∀x,(f x).length=3) (xs:List α):(xs.flatMap f).length=xs.length*3:=by
 induction xs with
 | nil=>rfl
 | cons x r ih=>rw[List.flatMap_cons,List.length_append,ih,hf,List.length_cons];omega
def aX (w:World) (base:Nat) (v:Value) (ts:List Gm.Tm):Prop:=w.ownsRow base 104 3 v ts.length (zdP ts)
def bG (w:World) (base:Nat) (v:Value) (ns:List (List Int)):Prop:=w.ownsRow base 9 1 v ns.length (ziP ns)
def bQ (w:World) (base N:Nat) (A:Option Addr) (zs:List Int):Prop :=
 zs.length≠0→∃(g:Nat) (cur:Array Value),A=some ⟨g,0,none⟩∧base≤g∧g<N∧w.heap[g]?=some (.cells cur 3 (0,0))∧∀j (h:j<zs.length),cur[j]?=some (.int .i64 zs[j])
def bA (w:World) (base N:Nat) (v:Value) (rs:List Gm.Rl):Prop :=
 ∃qs:List RA,qs.map (·.1)=rs∧w.ownsRow base 60 3 v rs.length (ziO qs)∧(∀k,v.ownBlock=some k→k<N)∧∀q∈qs,q.1.r.length≤q.2.2∧q.2.2≤9223372036854775807∧bQ w base N q.2.1 q.1.r
theorem aX.nil (w:World) (base:Nat):aX w base (.slice none 0 0) []:=World.ownsRow_nil w base _ _
theorem bG.nil (w:World) (base:Nat):bG w base (.slice none 0 0) []:=World.ownsRow_nil w base _ _
theorem bA.nil (w:World) (base N:Nat):bA w base N (.slice none 0 0) []:=⟨[],rfl,World.ownsRow_nil w base _ _,(by intro k h;cases h),(by intro q h;cases h)⟩
theorem aM {w:World} {base:Nat} {e:TypeId} {size n:Nat} {v:Value} {xs:List Value} (h:w.ownsRow base e size v n xs):∃A c,v=.slice A n c∧n≤c∧c≤maxLen:=by
 rcases h.2 with⟨rfl,h0⟩|⟨g,cap,cur,rfl,hb,hg,hn,hm,hs,ht⟩
 ·exact⟨none,0,by rw[h0],by omega,by unfold maxLen;omega⟩
 ·exact⟨_,cap,rfl,hn,hm⟩
theorem zaO {w:World} {base:Nat} {e:TypeId} {size n:Nat} {v:Value} {xs:List Value} (h:w.ownsRow base e size v n xs):∃A m c,v=.slice A m c:=by
 obtain⟨A,c,rfl,_⟩:=aM h
 exact⟨A,n,c,rfl⟩
theorem aP {w:World} {base:Nat} {e:TypeId} {size n:Nat} {v:Value} {xs:List Value} (h:w.ownsRow base e size v n xs) {g:Nat} {o:Obj} (hg:w.heap[g]?=some o) (ho:∀cur,o ≠ .cells cur e (0,0)):v.ownBlock=none∨v.ownBlock≠some g:=by
 rcases h.2 with⟨rfl,_⟩|⟨g',cap,cur,rfl,_,hg',_⟩
 ·exact .inl rfl
 ·refine .inr fun e1=>?_
  injection e1 with e1
  have e1:g'=g:=e1
  subst e1
  rw[hg]at hg'
  injection hg' with hg'
  exact ho _ hg'
theorem aH {w:World} {base:Nat} {e:TypeId} {size n:Nat} {v:Value} {xs:List Value} (h:w.ownsRow base e size v n xs) {k:Nat} (hk:v.ownBlock=some k):base≤k∧∃cur,w.heap[k]?=some (.cells cur e (0,0)):=by
 rcases h.2 with⟨rfl,_⟩|⟨g',cap,cur,rfl,hb,hg',_⟩
 ·cases hk
 ·injection hk with hk
  have hk:g'=k:=hk
  subst hk
  exact⟨hb,cur,hg'⟩
theorem bQ.grown {w w':World} {base N:Nat} {A:Option Addr} {zs:List Int} {row:Option Nat} (h:bQ w base N A zs) (hg:w.grownBy w' row) (hr:∀g,row=some g→(∀cur,w.heap[g]? ≠ some (.cells cur 3 (0,0)))∨N≤g):bQ w' base N A zs:=fun hn=>by
 obtain⟨g,cur,e,hb,hN,hh,hc⟩:=h hn
 refine⟨g,cur,e,hb,hN,(hg.block g (Array.getElem?_eq_some_iff.1 hh).1 (fun e=>?_)).trans hh,hc⟩
 rcases hr g e.symm with q|q
 ·exact q _ hh
 ·omega
theorem bQ.more {w:World} {base N N':Nat} {A:Option Addr} {zs:List Int} (h:bQ w base N A zs) (hN:N≤N'):bQ w base N' A zs:=fun hn=>by
 obtain⟨g,cur,e,hb,h1,hh⟩:=h hn
 exact⟨g,cur,e,hb,by omega,hh⟩
theorem bA.grown {w w':World} {base N:Nat} {v:Value} {rs:List Gm.Rl} {row:Option Nat} (h:bA w base N v rs) (hg:w.grownBy w' row) (hr:∀g,row=some g→((∀cur,w.heap[g]? ≠ some (.cells cur 3 (0,0)))∧(∀cur,w.heap[g]? ≠ some (.cells cur 60 (0,0))))∨N≤g):bA w' base N v rs:=by
 obtain⟨qs,h1,h2,h3,h4⟩:=h
 refine⟨qs,h1,h2.kept hg ?_,h3,fun q hq=>⟨(h4 q hq).1,(h4 q hq).2.1,(h4 q hq).2.2.grown hg fun g e=>?_⟩⟩
 ·rcases hv:v.ownBlock with _|k
  ·exact .inl rfl
  ·refine .inr fun e=>?_
   rcases hr k e.symm with q|q
   ·obtain⟨_,cur,hc⟩:=aH h2 hv
    exact q.2 _ hc
   ·have:=h3 k hv;omega
 ·rcases hr g e with q|q
  ·exact .inl q.1
  ·exact .inr q
theorem bA.more {w:World} {base N N':Nat} {v:Value} {rs:List Gm.Rl} (h:bA w base N v rs) (hN:N≤N'):bA w base N' v rs:=by
 obtain⟨qs,h1,h2,h3,h4⟩:=h
 exact⟨qs,h1,h2,fun k hk=>by have:=h3 k hk;omega,fun q hq=>⟨(h4 q hq).1,(h4 q hq).2.1,(h4 q hq).2.2.more hN⟩⟩
structure St where
 s:Gm.S1
 ns:List (List Int)
 rs:List Gm.Rl
 z:Int
def soS:Option Tok→ByteArray|none=>⟨#[]⟩|some x=>K.str x.t
def soX (L:List Int):Option Tok→Nat|none=>0|some x=>Fl.fl (Pl.pos (L.take x.o)).1
def soY (L:List Int):Option Tok→Nat|none=>0|some x=>Fl.fl (Pl.pos (L.take x.o)).2
theorem aR {w:World} {g:Nat} {cs:Array Value} {T T':TypeId} (h:w.heap[g]?=some (.cells cs T (0,0))) (hT:T≠T') (cur:Array Value):w.heap[g]? ≠ some (.cells cur T' (0,0)):=by
 rw[h];intro e;injection e with e;injection e with _ e;exact hT e
theorem zat (v:Value):v.ownBlock=none∨v.ownBlock≠(none:Option Nat):=by
 rcases v.ownBlock with _|k
 ·exact .inl rfl
 ·exact .inr (by simp)
section
variable {w w':World} {B N R:Nat} {cs:Array Value} {vT vN vR:Value} {ts:List Gm.Tm} {ns:List (List Int)} {rs:List Gm.Rl} {Ms Mt:Nat} {ml tl:List (List Int×Value)} {row:Option Nat}
theorem zag {e e':TypeId} {size size' n n' base base':Nat} {v u:Value} {xs ys:List Value} (h:w.ownsRow base e size v n xs) (k:w.ownsRow base' e' size' u n' ys) (he:e≠e'):v.ownBlock=none∨v.ownBlock≠u.ownBlock:=by
 rcases hu:u.ownBlock with _|g
 ·exact zat _
 ·obtain⟨_,cur,hc⟩:=aH k hu
  exact aP h hc (fun cur' q=>by injection q with _ q;exact he q.symm)
theorem zaa {e T:TypeId} {size n base g:Nat} {u:Value} {ys:List Value} (hb:w.heap[g]?=some (.cells cs T (0,0))) (k:w.ownsRow base e size u n ys) (he:T≠e) (hg:w.grownBy w' u.ownBlock):w'.heap[g]?=some (.cells cs T (0,0)):=by
 refine(hg.block g (Array.getElem?_eq_some_iff.1 hb).1 (fun q=>?_)).trans hb
 obtain⟨_,cur,hc⟩:=aH k q.symm
 exact aR hb he _ hc
end
theorem zhP:(Tryz.prog.info? 104).map (fun i=>(i.zero,i.size,i.bytes))=some (some (.agg #[.string ⟨#[]⟩,.int .i64 0,.int .i64 0]),3,32):=by kernel_rfl
theorem zhS:(Tryz.prog.info? 9).map (fun i=>(i.zero,i.size,i.bytes))=some (some (.string ⟨#[]⟩),1,16):=by kernel_rfl
theorem zhR:(Tryz.prog.info? 60).map (fun i=>(i.zero,i.size,i.bytes))=some (some (.agg #[.int .i64 0,.slice none 0 0,.int .i64 0]),3,40):=by kernel_rfl
theorem zhC {w:World} {ops:Array Oper} {rest:List Oper} {o:Oper} {a:Act} {Q:Exit→Act→World→Prop}
  (hgd:o.guard=none) (s x:Operand) (t:TypeId) (ho:o.op=.call {callee:=.builtin .append,args:=#[s,x],argTypes:=#[t,t]}) (ht:Tryz.prog.underlying t=some (.slice 60))
  (base N:Nat) (v:Value) (rs:List Gm.Rl) (hs:a.eval s=v) (hown:bA w base N v rs) (g c:Nat) (q:RA) (hx:a.eval x=.slice (some ⟨g,0,none⟩) 1 c) (hz:∀j u,(rlC q)[j]?=some u→w.cell? ⟨g,j,none⟩=some u) (hr:q.1.r.length≤q.2.2∧q.2.2≤9223372036854775807∧bQ w base w.heap.size q.2.1 q.1.r)
  (hlen:rs.length≤1000000) (hbase:base≤w.heap.size) (hN:N≤w.heap.size)
  (hK:∀v' w',bA w' base w'.heap.size v' (rs++[q.1])→w.grownBy w' v.ownBlock→wpList Tryz.prog ops Q rest (a.put o.dst v') w') :
  wpList Tryz.prog ops Q (o::rest) a w:=by
 obtain⟨i,hi,hz0,hz1,hz2⟩:=info_parts zhR
 obtain⟨qs,hq1,hq2,hq3,hq4⟩:=hown
 have hlq:qs.length=rs.length:=by rw[←hq1,List.length_map]
 refine wpList_append_own w hgd s x t ho base 60 i _ 3 40 ht hi hz0 hz1 hz2 rfl (by decide) v rs.length (ziO qs) hs hq2 ⟨g,0,none⟩ 1 c (rlC q) hx rfl ?_ ?_ (by unfold maxLen;omega) (by omega) hbase fun v' w' h1 h2 _=>hK v' w' ?_ h2
 ·intro j u hj
  rw[zdH,Nat.zero_add]
  exact hz j u hj
 ·intro u hu;simp[rlC]at hu;rcases hu with rfl|rfl|rfl <;> rfl
 ·have hng:∀g',v.ownBlock=some g'→(∀cur,w.heap[g']? ≠ some (.cells cur 3 (0,0)))∨w.heap.size≤g':=fun g' e=>by
   obtain⟨_,cur,hc⟩:=aH hq2 e
   exact .inl (aR hc (by decide))
  refine⟨qs++[q],by rw[List.map_append,hq1];rfl,?_,fun k hk=>?_,fun p hp=>?_⟩
  ·rw[List.length_append]
   unfold ziO
   rw[List.flatMap_append,List.flatMap_singleton]
   exact h1
  ·obtain⟨_,cur,hc⟩:=aH h1 hk
   exact(Array.getElem?_eq_some_iff.1 hc).1
  ·rcases List.mem_append.1 hp with h|h
   ·obtain⟨a1,a2,a3⟩:=hq4 p h
    exact⟨a1,a2,((a3.more hN).grown h2 hng).more h2.size⟩
   ·rw[List.mem_singleton]at h
    subst h
    exact⟨hr.1,hr.2.1,(hr.2.2.grown h2 hng).more h2.size⟩
theorem aK (w:World) (l:List Value) (T:TypeId) (j:Nat):(w.alloc (.cells l.toArray T)).cell? ⟨w.heap.size,j,none⟩=l[j]?:=by
 rw[cell_of_row _ _ j _ _ _ (heap_alloc_new w _)]
 simp
section
variable {w w':World} {B N R:Nat} {cs:Array Value} {vT vN vR:Value} {ts:List Gm.Tm} {ns:List (List Int)} {rs:List Gm.Rl} {Ms Mt:Nat} {ml tl:List (List Int×Value)}
end
end Go.Proofs.YtabmfpgpkbndeaaGreat
namespace Go.Proofs.YtabmfpgpkbndeaaGreat
set_option maxRecDepth 100000
set_option maxHeartbeats 40000000
open Go.RowKit
theorem Y.is_two (a:Int) (ts:List Tok):Y.is [a,a] ts=Y.is [a] ts:=by
 cases ts with
 | nil=>rfl
 | cons t r =>
  show [a,a].contains t.k=[a].contains t.k
  rw[Bool.eq_iff_iff]
  simp
theorem Rd8.row {L:List Int} {B R px py:Nat} {w w':World} {ts:List Tok} (h:Rd8 L B R px py w ts) (hg:w.grownBy w' .none):Rd8 L B R px py w' ts:=h.grown hg (fun _ e=>by cases e)
theorem Rd8.drew {L:List Int} {B R px py:Nat} {w:World} {ts:List Tok} (h:Rd8 L B R px py w ts):Rd8 L B R px py w.drew ts:=h
theorem Rd8.len {L:List Int} {B R px py:Nat} {w:World} {ts:List Tok} (h:Rd8 L B R px py w ts):ts.length≤4000:=by obtain⟨_,_,_,_,h,_⟩:=h;exact h
theorem zcy (L:List Int) (B R px py:Nat) (ts:List Tok) (a b:Int) (w:World) (hr:Rd8 L B R px py w ts) (t:Tok) (r:List Tok) (hk:Y.take [a,b] ts=.ok t r) :
  Calls Tryz.prog 102 #[.pointer (some ⟨R,0,none⟩),.int .i64 a,.int .i64 b] w fun e w'=>e=.returned (bO L t)∧w.grownBy w' (some R)∧Rd8 L B R px py w' r:=by
 obtain⟨rfl,h⟩:=Y.take_ok hk
 exact zdQ L B R px py t r a b w hr h
theorem zbJ (a:Int) (ts:List Tok):Y.take [a,a] ts=Y.take [a] ts:=by
 cases ts with
 | nil=>rfl
 | cons t r =>
  have h:([a,a]:List Int).contains t.k=[a].contains t.k:=Y.is_two a (t::r)
  rw[Y.take_cons,Y.take_cons,h]
def zjc (L:List Int) (t:Tok):Obj:=.cells #[.string (K.str t.t),.complex .f64 (Fl.fl (Pl.pos (L.take t.o)).1) (Fl.fl (Pl.pos (L.take t.o)).2)] 112 (0,0)
theorem zaq {w:World} {base:Nat} {e:TypeId} {size n:Nat} {v:Value} {xs:List Value} (h:w.ownsRow base e size v n xs) {R:Nat} (hR:R<base):v.ownBlock=none∨v.ownBlock≠some R:=by
 rcases hv:v.ownBlock with _|k
 ·exact .inl rfl
 ·have:=(World.ownsRow.lt h k hv).1
  exact .inr (fun e=>by injection e with e;omega)
theorem bD.alloc5 {L:List Int} {w:World} {base:Nat} {v:Value} {ps:List Y.Prd} (h:bD L w base v ps) (o:Obj):bD L (w.alloc o) base v ps:=h.grown (aF (World.grownBy.refl _ _) o) (zh5.none _ _)
theorem zeX {L:List Int} {w:World} {g c:Nat} {A:Option Addr} {left pt:Tok} {rs:List Tok} (h:w.heap[g]?=some (.cells (aU L ⟨left,rs,none⟩ A c).toArray 120 (0,0))) (u3 u4:Value) (h3:u3=.string (K.str pt.t)) (h4:u4=.complex .f64 (Fl.fl (Pl.pos (L.take pt.o)).1) (Fl.fl (Pl.pos (L.take pt.o)).2)) :
  ((w.setCell ⟨g,3,none⟩ u3).setCell ⟨g,4,none⟩ u4).heap[g]?=some (.cells (aU L ⟨left,rs,some pt⟩ A c).toArray 120 (0,0)):=by
 subst h3 h4
 have h3:=heap_setCell_same w g 3 _ _ (.string (K.str pt.t)) h
 rw[heap_setCell_same _ g 4 _ _ _ h3]
 rfl
theorem zbK {w w':World} {g base:Nat} {cs:Array Value} {size n:Nat} {v:Value} {xs:List Value} (h:w.heap[g]?=some (.cells cs 112 (0,0))) (o:Obj) (ho:(w.alloc o).ownsRow base 120 size v n xs) (hg:(w.alloc o).grownBy w' v.ownBlock):w'.heap[g]?=some (.cells cs 112 (0,0)):=by
 have h1:(w.alloc o).heap[g]?=some (.cells cs 112 (0,0)):=(((Below.refl _ w).alloc (Nat.le_refl _) o).block g (Array.getElem?_eq_some_iff.1 h).1).trans h
 exact zfX h1 hg (zas ho (by decide))
theorem zhU (L:List Int) (B R px py:Nat) (ts:List Tok) (ps:List Y.Prd) (r:List Tok) (w:World) (hr:Rd8 L B R px py w ts) (hy:Y.group [] ts=.ok ps r) :
  Calls Tryz.prog 103 #[.pointer (some ⟨R,0,none⟩)] w fun e w'=>w.grownBy w' (some R)∧∃v,e=.returned v∧bD L w' w.heap.size v ps∧Rd8 L B R px py w' r:=by
 have HR:=aA hr
 have hRlt:=hr.lt
 have HLN:=aA hr.len
 unfold Y.group at hy
 obtain⟨left,m,h1,hy⟩:=Y.bind_eq_ok hy
 obtain⟨t10,m2,h2,hy⟩:=Y.bind_eq_ok hy
 have HT1:=aA (zcy L B R px py ts 1 1 w hr left m ((zbJ 1 ts).trans h1))
 have HT2:=aA (fun(x:World) (h:Rd8 L B R px py x m)=>zcy L B R px py m 10 10 x h t10 m2 ((zbJ 10 m).trans h2))
 have HY:=aA hy
 have SC:=fun a w m X Y=>show(store a (.complex .f64 X Y) m).run Tryz.prog w=stored Tryz.prog w a (.complex .f64 X Y) m from run_store _ w a _ m rfl
 clear hr h1 h2 hy
 unfold bO at HT1 HT2
 go_enter Tryz.func103,Tryz.ntmps103
 go_wp2_with fail
 refine HT1.out.mono ?_;rintro _ w2 ⟨rfl,hg2,hr2⟩
 have HG2:=aA hg2
 have HR2:=aA (hr2.alloc (.cells #[.string (K.str left.t),.complex .f64 (Fl.fl (Pl.pos (L.take left.o)).1) (Fl.fl (Pl.pos (L.take left.o)).2)] 112))
 have hs2:=hg2.size
 clear hg2 hr2
 go_wp2_with fail
 refine(HT2.out _ HR2.out).mono ?_;rintro _ w3 ⟨rfl,hg3,hr3⟩
 have HG3:=aA ((aF HG2.out (.cells #[.string (K.str left.t),.complex .f64 (Fl.fl (Pl.pos (L.take left.o)).1) (Fl.fl (Pl.pos (L.take left.o)).2)] 112)).trans hg3)
 have HR3:=aA hr3
 have HB3:Hid (w3.heap[w2.heap.size]?=some (zjc L left)):=aA (zcN hg3 (by omega))
 have hs3:w2.heap.size+1≤w3.heap.size:=by have:=hg3.size;simpa using this
 clear hg3 hr3
 go_wp2_with fail
 go_loopw [3] (fun v wr=>∃(acc:List Y.Prd) (rest:List Tok) (f:Nat),Hid (Y.alts f left acc rest=.ok ps r)∧rest.length<f∧bD L wr w.heap.size v acc∧Rd8 L B R px py wr rest∧w.grownBy wr (some R)∧wr.heap[w2.heap.size]?=some (zjc L left)∧acc.length+rest.length≤4000) (fun v _=>4001-zcl v)
 case atStart=>exact⟨[],m2,m2.length+1,HY,by omega,bD.nil _ _ _,HR3.out,HG3.out,HB3.out,by have:=HR3.out.len;simpa using this⟩
 case round =>
  clear HT1 HT2 HR2 HG2 HR3 HB3 HG3 HR HY
  obtain⟨acc,rest,f,HY,hf,ho,hr,hg,hb,hl⟩:=hrel
  have HO:=aA ho
  have HR:=aA hr
  have HG:=aA hg
  have HB:=aA hb
  obtain⟨Aa,ca,rfl,_,_⟩:=ho.form
  obtain⟨f,rfl⟩:∃f',f=f'+1:=⟨f-1,by omega⟩
  have hY:=HY.out
  rw[Y.alts]at hY
  obtain⟨p,m3,hp,hY⟩:=Y.bind_eq_ok hY
  obtain⟨t,m4,ht,hY⟩:=Y.bind_eq_ok hY
  obtain⟨Ax,cx,hx0,hx3,_⟩:=hr.cell0
  have HP:=aA hp
  have HT:=aA ht
  have HYY:=aA hY
  clear ho hr hg hb hp ht hY
  go_upto_region 5 with fail
  go_cut [5] (fun s5 wx=>∃g A c,s5=.pointer (some ⟨g,0,none⟩)∧wr.heap.size≤g∧wx.heap[g]?=some (.cells (aU L ⟨left,rest.takeWhile Y.isRef,none⟩ A c).toArray 120 (0,0))∧RdR L wx w.heap.size A (rest.takeWhile Y.isRef)∧Rd8 L B R px py wx (rest.dropWhile Y.isRef)∧wr.grownBy wx (some R))
  case first =>
   have hne:w2.heap.size≠R:=by omega
   have CL0:=fun y:Calm.OnR R wr=>(show y.1.cell? ⟨w2.heap.size,0,none⟩=some (.string (K.str left.t)) by rw[cell_of_row y.1 _ 0 _ _ _ (zac y.2 HB.out hne)];rfl)
   have CL1:=fun y:Calm.OnR R wr=>(show y.1.cell? ⟨w2.heap.size,1,none⟩=some (.complex .f64 (Fl.fl (Pl.pos (L.take left.o)).1) (Fl.fl (Pl.pos (L.take left.o)).2)) by rw[cell_of_row y.1 _ 1 _ _ _ (zac y.2 HB.out hne)];rfl)
   have hd1:wr.grownBy wr.drew (some R):=aJ wr _
   have hRw:R<wr.heap.size:=HR.out.lt
   have hsw:w.heap.size≤wr.heap.size:=HG.out.size
   refine Calm.region_tree (fun x=>∃y:Calm.OnR R wr,x=y.1) (.two [0,1] 2 (.one [3] 4 (.one [] 5 (.fin []))) 4 (.one [] 2 (.one [3] 5 (.fin [])))) (by kernel_rfl) (by kernel_rfl) (fun _ _ d _ _ h=>by cases d <;> exact h) ⟨⟨wr.drew,hd1⟩,rfl⟩ ?_
   simp only[Calm.wpT,Calm.wpSt,Calm.pickOps,List.getElem?_toArray,List.getElem?_cons_zero,List.getElem?_cons_succ]
   repeat (go_big_quiet_step (fail))
   refine wpQuiet_nil ?_
   have HRF:=aA (fun(x:World) (hx:Rd8 L B R px py x rest)=>zii L B R px py rest x hx)
   refine⟨?_,?_⟩
   ·intro KK hKK
    rw[if_pos (by rfl)]
    go_wp2_with fail
    refine(HRF.out _ HR.out.drew).mono ?_;rintro _ w4 ⟨hg4,v,rfl,ho,hrd⟩
    obtain⟨A,c,rfl,hc1,hc2,hrr⟩:=ho.rd
    have hg:wr.grownBy w4 (some R):=hd1.trans hg4
    clear ho hg4 hc1 hc2
    go_wp2_with fail
    refine hKK _ _ ⟨⟨w4,hg⟩,rfl⟩ (fun x=>∃y:Calm.OnR R wr,x=y.1) (fun _ h=>h) ⟨⟨w4,hg⟩,rfl⟩ ?_
    repeat (go_big_quiet_step (fail))
    refine wpQuiet_nil ?_
    intro KK hKK
    rw[if_pos (by rfl)]
    go_wp2_with fail
    refine hKK _ _ ⟨⟨_,aF hg _⟩,rfl⟩ (fun x=>∃y:Calm.OnR R wr,x=y.1) (fun _ h=>h) ⟨⟨_,aF hg _⟩,rfl⟩ ?_
    repeat (go_big_quiet_step (fail))
    refine wpQuiet_nil ?_
    intro KK hKK
    try rw[if_pos (by rfl)]
    go_wp2_with fail
    refine hKK _ _ ⟨⟨_,aF hg _⟩,rfl⟩ (fun x=>∃y:Calm.OnR R wr,x=y.1) (fun _ h=>h) ⟨⟨_,aF hg _⟩,rfl⟩ ?_
    refine wpQuiet_nil ?_
    go_wp2_with fail
    go_meet
    case rel =>
     refine⟨w4.heap.size,A,c,rfl,hg.size,heap_alloc_new _ _,(hrr.less hsw).grown (aF (World.grownBy.refl _ _) _) (a8.none _),hrd.alloc _,aF hg _⟩
   ·intro KK hKK
    rw[if_pos (by rfl)]
    go_wp2_with fail
    obtain⟨w4,hw4⟩:∃x,x=(wr.alloc (.cells #[.string ⟨#[]⟩,.complex .f64 0 0,.slice none 0 0,.string ⟨#[]⟩,.complex .f64 0 0] 120)).drew:=⟨_,rfl⟩
    rw[←hw4]
    have hg4:wr.grownBy w4 .none:=by rw[hw4];exact(aF (World.grownBy.refl _ _) _).trans (aJ _ _)
    have hb4:w4.heap[wr.heap.size]?=some (.cells #[.string ⟨#[]⟩,.complex .f64 0 0,.slice none 0 0,.string ⟨#[]⟩,.complex .f64 0 0] 120 (0,0)):=by rw[hw4];exact heap_alloc_new wr _
    have hr4:=HR.out.row hg4
    clear hw4
    refine hKK _ _ ⟨⟨w4,hg4.row _⟩,rfl⟩ (fun x=>∃y:Calm.OnR R wr,x=y.1) (fun _ h=>h) ⟨⟨w4,hg4.row _⟩,rfl⟩ ?_
    refine wpQuiet_nil ?_
    intro KK hKK
    try rw[if_pos (by rfl)]
    go_wp2_with fail
    refine(HRF.out _ hr4).mono ?_;rintro _ w5 ⟨hg5,v,rfl,ho,hrd⟩
    obtain⟨A,c,rfl,hc1,hc2,hrr⟩:=ho.rd
    have hg:wr.grownBy w5 (some R):=(hg4.row _).trans hg5
    have hb5:=zac hg5 hb4 (by omega)
    clear ho hc1 hc2
    go_wp2_with fail
    refine hKK _ _ ⟨⟨w5,hg⟩,rfl⟩ (fun x=>∃y:Calm.OnR R wr,x=y.1) (fun _ h=>h) ⟨⟨w5,hg⟩,rfl⟩ ?_
    repeat (go_big_quiet_step (fail))
    refine wpQuiet_nil ?_
    intro KK hKK
    try rw[if_pos (by rfl)]
    have c0:=cell_of_row w5 _ 0 _ _ _ hb5
    have c1:=cell_of_row w5 _ 1 _ _ _ hb5
    have c2:=cell_of_row w5 _ 2 _ _ _ hb5
    have c3:=cell_of_row w5 _ 3 _ _ _ hb5
    have c4:=cell_of_row w5 _ 4 _ _ _ hb5
    have f0:=frozen_of_row w5 _ 0 _ _ hb5
    have f1:=frozen_of_row w5 _ 1 _ _ hb5
    have f2:=frozen_of_row w5 _ 2 _ _ hb5
    have f3:=frozen_of_row w5 _ 3 _ _ hb5
    have f4:=frozen_of_row w5 _ 4 _ _ hb5
    go_wp2_with fail
    have HGE:=aA (fun u0 u1 u2 u3 u4=>zaV (zaV (zaV (zaV (zaV hg wr.heap.size 0 u0 (Nat.le_refl _)) wr.heap.size 1 u1 (Nat.le_refl _)) wr.heap.size 2 u2 (Nat.le_refl _)) wr.heap.size 3 u3 (Nat.le_refl _)) wr.heap.size 4 u4 (Nat.le_refl _))
    refine hKK _ _ ⟨⟨_,HGE.out _ _ _ _ _⟩,rfl⟩ (fun x=>∃y:Calm.OnR R wr,x=y.1) (fun _ h=>h) ⟨⟨_,HGE.out _ _ _ _ _⟩,rfl⟩ ?_
    refine wpQuiet_nil ?_
    go_wp2_with fail
    go_meet
    case rel =>
     refine⟨wr.heap.size,A,c,rfl,Nat.le_refl _,ziW hb5 _ _ _ _ _,(hrr.less (by have:=hg4.size;omega)).grown (aD (aD (aD (aD (aD (World.grownBy.refl _ _) _ _) _ _) _ _) _ _) _ _) (zbO hb5 (by decide)),((((hrd.far _ _ _ hRw).far _ _ _ hRw).far _ _ _ hRw).far _ _ _ hRw).far _ _ _ hRw,HGE.out _ _ _ _ _⟩
  case rest =>
   obtain⟨g,A,c,rfl,hgw,hbk,hrr,hrd,hgr⟩:=hcut
   have HBK:=aA hbk
   have HRR:=aA hrr
   have HRD:=aA hrd
   have HGR:=aA hgr
   have hRw:R<wr.heap.size:=HR.out.lt
   have HNE:Hid (g≠R):=aA (by omega)
   have HNL:Hid (R<g):=aA (by omega)
   have HNG:Hid (wr.heap.size≤g):=aA hgw
   have HNR:Hid ((Value.slice Aa acc.length ca).ownBlock=none∨(Value.slice Aa acc.length ca).ownBlock≠some R):=aA (by obtain⟨zs,hown⟩:=HO.out.own;exact zaq hown hRlt)
   have HRU:Hid (Y.rule left rest=Y.rule2 left (rest.takeWhile Y.isRef) (rest.dropWhile Y.isRef)):=aA rfl
   have HLR:Hid ((rest.dropWhile Y.isRef).length≤rest.length):=aA ((List.dropWhile_sublist _).length_le)
   clear hbk hrr hrd hgr
   generalize rest.takeWhile Y.isRef=rs at *
   generalize rest.dropWhile Y.isRef=rest2 at *
   have HIS:=aA (is8 L B R px py rest2 8 8 wc HRD.out)
   rw[Y.is_two]at HIS
   rcases hb:Y.is [8] rest2 with _|_
   ·rw[hb]at HIS
    have HP2:Hid (p=⟨left,rs,none⟩∧m3=rest2):=aA (by have h:=HP.out;rw[HRU.out]at h;unfold Y.rule2 at h;rw[hb]at h;rw[if_neg (by simp)]at h;injection h with h1 h2;exact⟨h1.symm,h2.symm⟩)
    obtain⟨hp1,hp2⟩:=HP2.out
    have HBg:Hid (wc.heap[g]?=some (.cells (aU L p A c).toArray 120 (0,0))):=aA (by rw[hp1];exact HBK.out)
    have HRDx:Hid (Rd8 L B R px py wc m3):=aA (by rw[hp2];exact HRD.out)
    have HRRx:Hid (RdR L wc w.heap.size A p.r):=aA (by rw[hp1];exact HRR.out)
    have HGRx:=HGR
    have HM3:Hid (m3.length≤rest.length):=aA (by rw[hp2];exact HLR.out)
    clear hp1 hp2 HBK HRR
    go_wp2_with fail
    refine HIS.out.mono ?_;rintro _ _ ⟨rfl,rfl⟩
    have HAP:=aA (HO.out.grown HGRx.out ⟨HR.out.other,HNR.out⟩)
    have HL9:Hid (acc.length≤4000):=aA (by omega)
    obtain⟨x3,x4,hx34⟩:=zbB L p.p
    have HPC:=aA (show aU L p A c=[.string (K.str p.l.t),.complex .f64 (Fl.fl (Pl.pos (L.take p.l.o)).1) (Fl.fl (Pl.pos (L.take p.l.o)).2),.slice A p.r.length c,x3,x4] by unfold aU;rw[hx34];rfl)
    have hbg:=HBg.out
    rw[HPC.out]at hbg
    have g0:wc.cell? ⟨g,0,none⟩=some (.string (K.str p.l.t)):=by rw[cell_of_row wc g 0 _ _ _ hbg];rfl
    have g1:wc.cell? ⟨g,1,none⟩=some (.complex .f64 (Fl.fl (Pl.pos (L.take p.l.o)).1) (Fl.fl (Pl.pos (L.take p.l.o)).2)):=by rw[cell_of_row wc g 1 _ _ _ hbg];rfl
    have g2:wc.cell? ⟨g,2,none⟩=some (.slice A p.r.length c):=by rw[cell_of_row wc g 2 _ _ _ hbg];rfl
    have g3:wc.cell? ⟨g,3,none⟩=some x3:=by rw[cell_of_row wc g 3 _ _ _ hbg];rfl
    have g4:wc.cell? ⟨g,4,none⟩=some x4:=by rw[cell_of_row wc g 4 _ _ _ hbg];rfl
    have HCE:=aA (fun j u (hj:(aU L p A c)[j]?=some u)=>(aK wc [.string (K.str p.l.t),.complex .f64 (Fl.fl (Pl.pos (L.take p.l.o)).1) (Fl.fl (Pl.pos (L.take p.l.o)).2),.slice A p.r.length c,x3,x4] 120 j).trans (HPC.out▸hj))
    have HSx:Hid (w.heap.size≤wc.heap.size):=aA (by have h1:=HG.out.size;have h2:=HGRx.out.size;omega)
    have HIS9:=aA (fun(x:World) (h:Rd8 L B R px py x m3)=>is8 L B R px py m3 11 11 x h)
    have HGL:=aA (HG.out.trans HGRx.out)
    have hbB:=zac HGRx.out HB.out (by omega)
    have HBB:=aA hbB
    clear hbg hx34 HBg hbB
    obtain⟨zs,hown⟩:=(HAP.out.alloc5 (.cells #[.string (K.str p.l.t),.complex .f64 (Fl.fl (Pl.pos (L.take p.l.o)).1) (Fl.fl (Pl.pos (L.take p.l.o)).2),.slice A p.r.length c,x3,x4] 120)).own
    have HWN:=aA hown
    clear hown
    rcases hk11:Y.is [11] m3 with _|_
    ·have HK:=aA hk11
     rw[Y.is_two,hk11]at HIS9
     obtain⟨rfl,hk⟩:=Y.take_ok HT.out
     have hk2:t.k=12:=by
      have h1:[(11:Int)].contains t.k=false:=hk11
      simp at h1 hk
      omega
     have HTT:=aA (fun(x:World) (h:Rd8 L B R px py x (t::m4))=>zdQ L B R px py t m4 12 12 x h (by show [(12:Int),12].contains t.k=true;rw[hk2];rfl))
     have HFIN:Hid (acc++[p]=ps∧m4=r):=aA (by have h:=HYY.out;rw[if_neg (by rw[hk2];decide)]at h;injection h with h1 h2;exact⟨h1,h2⟩)
     unfold bO at HTT
     clear hk11 hk hk2
     go_wp2_with (at_builtin;(refine zdg rfl (.tmp 26) (.tmp 28) _ rfl Tryz.underlying76 L w.heap.size _ acc rfl (HAP.out.alloc5 _) wc.heap.size 1 p A c rfl HCE.out (HRRx.out.grown (aF (World.grownBy.refl _ _) _) (a8.none _)) (by have:=HL9.out;omega) (by have:=HSx.out;simp;omega) ?_;intro v9 w9 ho9 hg9))
     have HRD9:=aA ((HRDx.out.alloc (.cells #[.string (K.str p.l.t),.complex .f64 (Fl.fl (Pl.pos (L.take p.l.o)).1) (Fl.fl (Pl.pos (L.take p.l.o)).2),.slice A p.r.length c,x3,x4] 120)).own HWN.out hg9 hRlt)
     have HG9:=aA (zad (aF HGL.out (.cells #[.string (K.str p.l.t),.complex .f64 (Fl.fl (Pl.pos (L.take p.l.o)).1) (Fl.fl (Pl.pos (L.take p.l.o)).2),.slice A p.r.length c,x3,x4] 120)) HWN.out hg9)
     obtain⟨A9,c9,hv9,_,_⟩:=ho9.form
     rw[show(acc++[p]).length=acc.length+1 by simp]at hv9
     subst hv9
     have HO9:=aA ho9
     have HB9:=aA ((zbK HBB.out (.cells #[.string (K.str p.l.t),.complex .f64 (Fl.fl (Pl.pos (L.take p.l.o)).1) (Fl.fl (Pl.pos (L.take p.l.o)).2),.slice A p.r.length c,x3,x4] 120) HWN.out hg9))
     obtain⟨z9,hown9⟩:=ho9.own
     have HW9:=aA hown9
     clear ho9 hg9 hown9
     go_wp2_with fail
     refine(HIS9.out _ HRD9.out).mono ?_;rintro _ _ ⟨rfl,rfl⟩
     go_wp2_with fail
     refine(HTT.out _ HRD9.out).mono ?_;rintro _ w10 ⟨rfl,hg10,hr10⟩
     have HGF:=aA (HG9.out.trans hg10)
     have HOF:=aA (HO9.out.grown hg10 ⟨HRD9.out.other,zaq HW9.out (by omega)⟩)
     have HRF:=aA hr10
     clear hg10 hr10
     go_wp2
     go_ret
     refine⟨HGF.out,_,rfl,?_,?_⟩
     ·rw[←HFIN.out.1];exact HOF.out
     ·rw[←HFIN.out.2];exact HRF.out
    ·have HK:=aA hk11
     rw[Y.is_two,hk11]at HIS9
     obtain⟨rfl,hk⟩:=Y.take_ok HT.out
     have hk2:t.k=11:=by
      have h1:[(11:Int)].contains t.k=true:=hk11
      simpa using h1
     have HTT:=aA (fun(x:World) (h:Rd8 L B R px py x (t::m4))=>zdQ L B R px py t m4 11 11 x h (by show [(11:Int),11].contains t.k=true;rw[hk2];rfl))
     have HFIN:Hid (Y.alts f left (acc++[p]) m4=.ok ps r):=aA (by have h:=HYY.out;rwa [if_pos hk2]at h)
     unfold bO at HTT
     clear hk11 hk hk2
     go_wp2_with (at_builtin;(refine zdg rfl (.tmp 26) (.tmp 28) _ rfl Tryz.underlying76 L w.heap.size _ acc rfl (HAP.out.alloc5 _) wc.heap.size 1 p A c rfl HCE.out (HRRx.out.grown (aF (World.grownBy.refl _ _) _) (a8.none _)) (by have:=HL9.out;omega) (by have:=HSx.out;simp;omega) ?_;intro v9 w9 ho9 hg9))
     have HRD9:=aA ((HRDx.out.alloc (.cells #[.string (K.str p.l.t),.complex .f64 (Fl.fl (Pl.pos (L.take p.l.o)).1) (Fl.fl (Pl.pos (L.take p.l.o)).2),.slice A p.r.length c,x3,x4] 120)).own HWN.out hg9 hRlt)
     have HG9:=aA (zad (aF HGL.out (.cells #[.string (K.str p.l.t),.complex .f64 (Fl.fl (Pl.pos (L.take p.l.o)).1) (Fl.fl (Pl.pos (L.take p.l.o)).2),.slice A p.r.length c,x3,x4] 120)) HWN.out hg9)
     obtain⟨A9,c9,hv9,_,_⟩:=ho9.form
     rw[show(acc++[p]).length=acc.length+1 by simp]at hv9
     subst hv9
     have HO9:=aA ho9
     have HB9:=aA ((zbK HBB.out (.cells #[.string (K.str p.l.t),.complex .f64 (Fl.fl (Pl.pos (L.take p.l.o)).1) (Fl.fl (Pl.pos (L.take p.l.o)).2),.slice A p.r.length c,x3,x4] 120) HWN.out hg9))
     obtain⟨z9,hown9⟩:=ho9.own
     have HW9:=aA hown9
     clear ho9 hg9 hown9
     go_wp2_with fail
     refine(HIS9.out _ HRD9.out).mono ?_;rintro _ _ ⟨rfl,rfl⟩
     go_wp2_with fail
     refine(HTT.out _ HRD9.out).mono ?_;rintro _ w10 ⟨rfl,hg10,hr10⟩
     have HGF:=aA (HG9.out.trans hg10)
     have HOF:=aA (HO9.out.grown hg10 ⟨HRD9.out.other,zaq HW9.out (by omega)⟩)
     have HRF:=aA hr10
     have HBF:=aA (zac hg10 HB9.out (by omega))
     clear hg10 hr10
     go_wp2
     go_roundw
     case rel=>exact⟨acc++[p],m4,f,HFIN,by have:=HM3.out;simp at this;omega,HOF.out,HRF.out,HGF.out,HBF.out,by have:=HM3.out;simp at this ⊢;omega⟩
     case measure=>have:=HL9.out;simp[zcl];omega
   ·rw[hb]at HIS
    obtain⟨t8,r8,hrest,htk8,_⟩:=Y.is_true hb
    have hP3:=HP.out
    rw[HRU.out]at hP3
    unfold Y.rule2 at hP3
    rw[hb,if_pos rfl,htk8,Y.bind_ok]at hP3
    obtain⟨pt,r9,htp,hP3⟩:=Y.bind_eq_ok hP3
    injection hP3 with hp1 hp2
    have HP1:=aA hp1
    have HTA:=aA (zcy L B R px py rest2 8 8 wc HRD.out t8 r8 ((zbJ 8 rest2).trans htk8))
    have HTB:=aA (fun(x:World) (h:Rd8 L B R px py x r8)=>zcy L B R px py r8 1 2 x h pt r9 htp)
    have HM3:Hid (m3.length≤rest.length):=aA (by
     have h1:=(Y.take_ok htp).1
     have h2:=HLR.out
     rw[hrest,h1]at h2
     rw[←hp2]
     simp at h2
     omega)
    have HM4:Hid (r9=m3):=aA hp2
    clear hrest htk8 htp hp1 hp2 hb
    unfold bO at HTA HTB
    go_wp2_with fail
    refine HIS.out.mono ?_;rintro _ _ ⟨rfl,rfl⟩
    go_wp2_with fail
    refine HTA.out.mono ?_;rintro _ w5 ⟨rfl,hg5,hr5⟩
    have HG5:=aA hg5
    have HR5:=aA hr5
    clear hg5 hr5
    go_wp2_with fail
    refine(HTB.out _ HR5.out).mono ?_;rintro _ w6 ⟨rfl,hg6,hr6⟩
    have hgr:=HG5.out.trans hg6
    have hbg:=zac hgr HBK.out HNE.out
    have e3:=frozen_of_row w6 g 3 _ _ hbg
    have e4:=frozen_of_row w6 g 4 _ _ hbg
    have d3:w6.cell? ⟨g,3,none⟩=some (.string ⟨#[]⟩):=by rw[cell_of_row w6 g 3 _ _ _ hbg];rfl
    have d4:w6.cell? ⟨g,4,none⟩=some (.complex .f64 0 0):=by rw[cell_of_row w6 g 4 _ _ _ hbg];rfl
    have HBg6:=aA hbg
    have HG6:=aA (HGR.out.trans hgr)
    have HR6:=aA hr6
    have HRR6:=aA (HRR.out.grown hgr HRD.out.other)
    have HOg:=aA (zbO hbg (by decide))
    clear hbg hg6 hr6 hgr HBK HRR
    go_upto_region 9 with fail
    obtain⟨w7,hw7⟩:∃x,x=(w6.setCell ⟨g,3,none⟩ (.string (K.str pt.t))).setCell ⟨g,4,none⟩ (.complex .f64 (Fl.fl (Pl.pos (L.take pt.o)).1) (Fl.fl (Pl.pos (L.take pt.o)).2)):=⟨_,rfl⟩
    rw[←hw7]
    have HBg:Hid (w7.heap[g]?=some (.cells (aU L p A c).toArray 120 (0,0))):=aA (by rw[hw7,←HP1.out];exact zeX HBg6.out _ _ rfl rfl)
    have HRDx:Hid (Rd8 L B R px py w7 m3):=aA (by rw[hw7,←HM4.out];exact(HR6.out.far _ _ _ HNL.out).far _ _ _ HNL.out)
    have HRRx:Hid (RdR L w7 w.heap.size A p.r):=aA (by rw[hw7,←HP1.out];exact HRR6.out.grown (aD (aD (World.grownBy.refl _ _) _ _) _ _) HOg.out)
    have HGRx:Hid (wr.grownBy w7 (some R)):=aA (by rw[hw7];exact zaV (zaV HG6.out _ _ _ HNG.out) _ _ _ HNG.out)
    clear hw7 e3 e4 d3 d4
    have HAP:=aA (HO.out.grown HGRx.out ⟨HR.out.other,HNR.out⟩)
    have HL9:Hid (acc.length≤4000):=aA (by omega)
    obtain⟨x3,x4,hx34⟩:=zbB L p.p
    have HPC:=aA (show aU L p A c=[.string (K.str p.l.t),.complex .f64 (Fl.fl (Pl.pos (L.take p.l.o)).1) (Fl.fl (Pl.pos (L.take p.l.o)).2),.slice A p.r.length c,x3,x4] by unfold aU;rw[hx34];rfl)
    have hbg:=HBg.out
    rw[HPC.out]at hbg
    have g0:w7.cell? ⟨g,0,none⟩=some (.string (K.str p.l.t)):=by rw[cell_of_row w7 g 0 _ _ _ hbg];rfl
    have g1:w7.cell? ⟨g,1,none⟩=some (.complex .f64 (Fl.fl (Pl.pos (L.take p.l.o)).1) (Fl.fl (Pl.pos (L.take p.l.o)).2)):=by rw[cell_of_row w7 g 1 _ _ _ hbg];rfl
    have g2:w7.cell? ⟨g,2,none⟩=some (.slice A p.r.length c):=by rw[cell_of_row w7 g 2 _ _ _ hbg];rfl
    have g3:w7.cell? ⟨g,3,none⟩=some x3:=by rw[cell_of_row w7 g 3 _ _ _ hbg];rfl
    have g4:w7.cell? ⟨g,4,none⟩=some x4:=by rw[cell_of_row w7 g 4 _ _ _ hbg];rfl
    have HCE:=aA (fun j u (hj:(aU L p A c)[j]?=some u)=>(aK w7 [.string (K.str p.l.t),.complex .f64 (Fl.fl (Pl.pos (L.take p.l.o)).1) (Fl.fl (Pl.pos (L.take p.l.o)).2),.slice A p.r.length c,x3,x4] 120 j).trans (HPC.out▸hj))
    have HSx:Hid (w.heap.size≤w7.heap.size):=aA (by have h1:=HG.out.size;have h2:=HGRx.out.size;omega)
    have HIS9:=aA (fun(x:World) (h:Rd8 L B R px py x m3)=>is8 L B R px py m3 11 11 x h)
    have HGL:=aA (HG.out.trans HGRx.out)
    have hbB:=zac HGRx.out HB.out (by omega)
    have HBB:=aA hbB
    clear hbg hx34 HBg hbB
    obtain⟨zs,hown⟩:=(HAP.out.alloc5 (.cells #[.string (K.str p.l.t),.complex .f64 (Fl.fl (Pl.pos (L.take p.l.o)).1) (Fl.fl (Pl.pos (L.take p.l.o)).2),.slice A p.r.length c,x3,x4] 120)).own
    have HWN:=aA hown
    clear hown
    rcases hk11:Y.is [11] m3 with _|_
    ·have HK:=aA hk11
     rw[Y.is_two,hk11]at HIS9
     obtain⟨rfl,hk⟩:=Y.take_ok HT.out
     have hk2:t.k=12:=by
      have h1:[(11:Int)].contains t.k=false:=hk11
      simp at h1 hk
      omega
     have HTT:=aA (fun(x:World) (h:Rd8 L B R px py x (t::m4))=>zdQ L B R px py t m4 12 12 x h (by show [(12:Int),12].contains t.k=true;rw[hk2];rfl))
     have HFIN:Hid (acc++[p]=ps∧m4=r):=aA (by have h:=HYY.out;rw[if_neg (by rw[hk2];decide)]at h;injection h with h1 h2;exact⟨h1,h2⟩)
     unfold bO at HTT
     clear hk11 hk hk2
     go_wp2_with (at_builtin;(refine zdg rfl (.tmp 26) (.tmp 28) _ rfl Tryz.underlying76 L w.heap.size _ acc rfl (HAP.out.alloc5 _) w7.heap.size 1 p A c rfl HCE.out (HRRx.out.grown (aF (World.grownBy.refl _ _) _) (a8.none _)) (by have:=HL9.out;omega) (by have:=HSx.out;simp;omega) ?_;intro v9 w9 ho9 hg9))
     have HRD9:=aA ((HRDx.out.alloc (.cells #[.string (K.str p.l.t),.complex .f64 (Fl.fl (Pl.pos (L.take p.l.o)).1) (Fl.fl (Pl.pos (L.take p.l.o)).2),.slice A p.r.length c,x3,x4] 120)).own HWN.out hg9 hRlt)
     have HG9:=aA (zad (aF HGL.out (.cells #[.string (K.str p.l.t),.complex .f64 (Fl.fl (Pl.pos (L.take p.l.o)).1) (Fl.fl (Pl.pos (L.take p.l.o)).2),.slice A p.r.length c,x3,x4] 120)) HWN.out hg9)
     obtain⟨A9,c9,hv9,_,_⟩:=ho9.form
     rw[show(acc++[p]).length=acc.length+1 by simp]at hv9
     subst hv9
     have HO9:=aA ho9
     have HB9:=aA ((zbK HBB.out (.cells #[.string (K.str p.l.t),.complex .f64 (Fl.fl (Pl.pos (L.take p.l.o)).1) (Fl.fl (Pl.pos (L.take p.l.o)).2),.slice A p.r.length c,x3,x4] 120) HWN.out hg9))
     obtain⟨z9,hown9⟩:=ho9.own
     have HW9:=aA hown9
     clear ho9 hg9 hown9
     go_wp2_with fail
     refine(HIS9.out _ HRD9.out).mono ?_;rintro _ _ ⟨rfl,rfl⟩
     go_wp2_with fail
     refine(HTT.out _ HRD9.out).mono ?_;rintro _ w10 ⟨rfl,hg10,hr10⟩
     have HGF:=aA (HG9.out.trans hg10)
     have HOF:=aA (HO9.out.grown hg10 ⟨HRD9.out.other,zaq HW9.out (by omega)⟩)
     have HRF:=aA hr10
     clear hg10 hr10
     go_wp2
     go_ret
     refine⟨HGF.out,_,rfl,?_,?_⟩
     ·rw[←HFIN.out.1];exact HOF.out
     ·rw[←HFIN.out.2];exact HRF.out
    ·have HK:=aA hk11
     rw[Y.is_two,hk11]at HIS9
     obtain⟨rfl,hk⟩:=Y.take_ok HT.out
     have hk2:t.k=11:=by
      have h1:[(11:Int)].contains t.k=true:=hk11
      simpa using h1
     have HTT:=aA (fun(x:World) (h:Rd8 L B R px py x (t::m4))=>zdQ L B R px py t m4 11 11 x h (by show [(11:Int),11].contains t.k=true;rw[hk2];rfl))
     have HFIN:Hid (Y.alts f left (acc++[p]) m4=.ok ps r):=aA (by have h:=HYY.out;rwa [if_pos hk2]at h)
     unfold bO at HTT
     clear hk11 hk hk2
     go_wp2_with (at_builtin;(refine zdg rfl (.tmp 26) (.tmp 28) _ rfl Tryz.underlying76 L w.heap.size _ acc rfl (HAP.out.alloc5 _) w7.heap.size 1 p A c rfl HCE.out (HRRx.out.grown (aF (World.grownBy.refl _ _) _) (a8.none _)) (by have:=HL9.out;omega) (by have:=HSx.out;simp;omega) ?_;intro v9 w9 ho9 hg9))
     have HRD9:=aA ((HRDx.out.alloc (.cells #[.string (K.str p.l.t),.complex .f64 (Fl.fl (Pl.pos (L.take p.l.o)).1) (Fl.fl (Pl.pos (L.take p.l.o)).2),.slice A p.r.length c,x3,x4] 120)).own HWN.out hg9 hRlt)
     have HG9:=aA (zad (aF HGL.out (.cells #[.string (K.str p.l.t),.complex .f64 (Fl.fl (Pl.pos (L.take p.l.o)).1) (Fl.fl (Pl.pos (L.take p.l.o)).2),.slice A p.r.length c,x3,x4] 120)) HWN.out hg9)
     obtain⟨A9,c9,hv9,_,_⟩:=ho9.form
     rw[show(acc++[p]).length=acc.length+1 by simp]at hv9
     subst hv9
     have HO9:=aA ho9
     have HB9:=aA ((zbK HBB.out (.cells #[.string (K.str p.l.t),.complex .f64 (Fl.fl (Pl.pos (L.take p.l.o)).1) (Fl.fl (Pl.pos (L.take p.l.o)).2),.slice A p.r.length c,x3,x4] 120) HWN.out hg9))
     obtain⟨z9,hown9⟩:=ho9.own
     have HW9:=aA hown9
     clear ho9 hg9 hown9
     go_wp2_with fail
     refine(HIS9.out _ HRD9.out).mono ?_;rintro _ _ ⟨rfl,rfl⟩
     go_wp2_with fail
     refine(HTT.out _ HRD9.out).mono ?_;rintro _ w10 ⟨rfl,hg10,hr10⟩
     have HGF:=aA (HG9.out.trans hg10)
     have HOF:=aA (HO9.out.grown hg10 ⟨HRD9.out.other,zaq HW9.out (by omega)⟩)
     have HRF:=aA hr10
     have HBF:=aA (zac hg10 HB9.out (by omega))
     clear hg10 hr10
     go_wp2
     go_roundw
     case rel=>exact⟨acc++[p],m4,f,HFIN,by have:=HM3.out;simp at this;omega,HOF.out,HRF.out,HGF.out,HBF.out,by have:=HM3.out;simp at this ⊢;omega⟩
     case measure=>have:=HL9.out;simp[zcl];omega
theorem Y.decls_more:∀(f:Nat) (acc:List Y.Dcl) (ts:List Tok) (ds:List Y.Dcl) (r:List Tok),Y.decls f acc ts=.ok ds r→∃ms,ds=acc++ms
 | 0,acc,ts,ds,r,h=>by injection h with h1 h2;exact⟨[],by rw[←h1,List.append_nil]⟩
 | f+1,acc,ts,ds,r,h=>by
  rw[Y.decls]at h
  split at h
  ·injection h with h1 h2;exact⟨[],by rw[←h1,List.append_nil]⟩
  ·obtain⟨d,m,h1,h2⟩:=Y.bind_eq_ok h
   obtain⟨ms,e⟩:=Y.decls_more f _ _ _ _ h2
   exact⟨d::ms,by rw[e];simp⟩
theorem bE.alloc5 {L:List Int} {w:World} {base:Nat} {v:Value} {ds:List Y.Dcl} (h:bE L w base v ds) (o:Obj):bE L (w.alloc o) base v ds:=h.grown (aF (World.grownBy.refl _ _) o) (zh5.none _ _)
theorem zjs (L:List Int) (B R px py:Nat) (f:Nat) (ts:List Tok) (ds:List Y.Dcl) (r:List Tok) (w:World) (hr:Rd8 L B R px py w ts) (hy:Y.decls f [] ts=.ok ds r) (hf:ts.length<f) (hns:∀d∈ds,d.k=4∨d.k=5) :
  Calls Tryz.prog 101 #[.pointer (some ⟨R,0,none⟩)] w fun e w'=>w.grownBy w' (some R)∧∃v,e=.returned v∧bE L w' w.heap.size v ds∧Rd8 L B R px py w' r:=by
 have HR:=aA hr
 have hRlt:=hr.lt
 have HY:=aA hy
 have HF:=aA hf
 have HNS:=aA hns
 have hts:=hr.len
 have SC:=fun a w m X Y=>show(store a (.complex .f64 X Y) m).run Tryz.prog w=stored Tryz.prog w a (.complex .f64 X Y) m from run_store _ w a _ m rfl
 have BDD:=fun A (n c:Nat) k w=>(run_build w 154 _ _ (by kernel_rfl):(Instr.build 154 #[(0,.int .i64 k),(1,.slice A n c)]).run Tryz.prog w=.ok (.agg #[.int .i64 k,.slice A n c]) w)
 clear hr hy hf hns
 go_enter Tryz.func101,Tryz.ntmps101
 go_wp2
 go_loopw [3] (fun v wr=>∃(acc:List Y.Dcl) (rest:List Tok) (f:Nat),Hid (Y.decls f acc rest=.ok ds r)∧rest.length<f∧bE L wr w.heap.size v acc∧Rd8 L B R px py wr rest∧w.grownBy wr (some R)∧acc.length+rest.length≤ts.length) (fun v _=>4001-zcl v)
 case atStart=>exact⟨[],ts,f,HY,HF.out,bE.nil _ _ _,HR.out,World.grownBy.refl _ _,by simp⟩
 case round =>
  clear HR HY HF
  obtain⟨acc,rest,f,HY,hf,ho,hr,hg,hl⟩:=hrel
  have HO:=aA ho
  have HR:=aA hr
  have HG:=aA hg
  obtain⟨Aa,ca,rfl,_,_⟩:=ho.form
  obtain⟨f,rfl⟩:∃f',f=f'+1:=⟨f-1,by omega⟩
  obtain⟨Ax,cx,hx0,hx3,_⟩:=hr.cell0
  have HKD:=aA (fun(x:World) (h:Rd8 L B R px py x rest)=>ziu L B R px py rest x h)
  have hY:=HY.out
  rw[Y.decls]at hY
  rcases rest with _|⟨t,m1⟩
  ·exfalso
   rw[if_neg (by simp[Y.is])]at hY
   obtain⟨d,m,h1,_⟩:=Y.bind_eq_ok hY
   unfold Y.decl at h1
   obtain⟨t,m,h2,_⟩:=Y.bind_eq_ok h1
   cases h2
  have HK0:Hid (kd (t::m1)=t.k):=aA rfl
  rw[HK0.out]at HKD
  have hlen:0<((t::m1).length:Int):=by simp
  by_cases h9:t.k=9
  ·have HFIN:Hid (acc=ds∧t::m1=r):=aA (by
    rw[if_pos (by show [(9:Int)].contains t.k=true;rw[h9];rfl)]at hY
    injection hY with h1 h2
    exact⟨h1,h2⟩)
   rw[h9]at HKD
   clear hY h9 ho hr hg
   generalize (t::m1).length=n at *
   go_wp2_with fail
   refine(HKD.out _ HR.out).mono ?_;rintro _ _ ⟨rfl,rfl⟩
   go_wp2
   go_ret
   exact⟨HG.out,_,rfl,by rw[←HFIN.out.1];exact HO.out,by rw[←HFIN.out.2];exact HR.out⟩
  ·rw[if_neg (by show ¬ [(9:Int)].contains t.k=true;simpa using fun e=>h9 e)]at hY
   obtain⟨d,m2,hd,hY⟩:=Y.bind_eq_ok hY
   have hdk:d.k=4∨d.k=5:=by
    obtain⟨ms,e⟩:=Y.decls_more _ _ _ _ _ hY
    exact HNS.out d (by rw[e];simp)
   unfold Y.decl at hd
   obtain⟨t',m',h1,hd⟩:=Y.bind_eq_ok hd
   obtain⟨e1,hk⟩:=Y.take_ok h1
   injection e1 with e1 e2
   subst e1 e2
   by_cases h7:t.k=7
   ·rw[if_pos h7]at hd
    obtain⟨n,m,_,hd⟩:=Y.bind_eq_ok hd
    injection hd with hd _
    rw[←hd]at hdk
    simp at hdk
   rw[if_neg h7]at hd
   obtain⟨n,m3,h2,hd⟩:=Y.bind_eq_ok hd
   injection hd with hd hm2
   have hk3:t.k=4∨t.k=5:=by rw[←hd]at hdk;exact hdk
   have HD:=aA (And.intro hd hm2)
   have HLR:Hid ((t::m1).length=m3.length+2):=aA (by rw[(Y.take_ok h2).1];simp)
   have HTA:=aA (fun(x:World) (h:Rd8 L B R px py x (t::m1))=>zdQ L B R px py t m1 t.k t.k x h (by show [t.k,t.k].contains t.k=true;simp))
   have HTB:=aA (fun(x:World) (h:Rd8 L B R px py x m1)=>zcy L B R px py m1 1 2 x h n m3 h2)
   have HYN:=aA hY
   have b9:(t.k != 9)=true:=by simpa using h9
   have b7:(t.k==7)=false:=by simpa using h7
   have HKK:=aA hk3
   unfold bO at HTA HTB
   clear hY hd hm2 h1 h2 hk hdk h9 h7 ho hr hg
   generalize (t::m1).length=len at *
   generalize htk:t.k=tk at *
   have HTK:=aA htk
   clear htk
   have HNR:Hid ((Value.slice Aa acc.length ca).ownBlock=none∨(Value.slice Aa acc.length ca).ownBlock≠some R):=aA (by obtain⟨zs,hown⟩:=HO.out.own;exact zaq hown hRlt)
   have HLM:Hid (acc.length+m3.length≤4000):=aA (by have:=HLR.out;omega)
   have HNX:Hid (Hid (Y.decls f (acc++[d]) (m3.dropWhile Y.isRef)=.ok ds r)∧(m3.dropWhile Y.isRef).length<f∧(acc++[d]).length+(m3.dropWhile Y.isRef).length≤ts.length):=aA (by
    have h1:(m3.dropWhile Y.isRef).length≤m3.length:=(List.dropWhile_sublist _).length_le
    have h2:=HLR.out
    refine⟨by rw[HD.out.2];exact HYN,by omega,?_⟩
    rw[List.length_append,List.length_singleton]
    omega)
   have HTW:Hid ((m3.takeWhile Y.isRef).length≤4000):=aA (by have h1:(m3.takeWhile Y.isRef).length≤m3.length:=(List.takeWhile_sublist _).length_le;have:=HLM.out;omega)
   have HDN:Hid (n::m3.takeWhile Y.isRef=d.ns):=aA (by rw[←HD.out.1])
   have HDC:Hid (∀(A:Option Addr) (c:Nat),za0 d A c=[.int .i64 tk,.slice A ((m3.takeWhile Y.isRef).length+1) c]):=aA (by intro A c;unfold za0;rw[←HD.out.1];simp only[List.length_cons])
   clear HNS
   rcases HKK.out with rfl|rfl
   ·go_wp2_with fail
    refine(HKD.out _ HR.out).mono ?_;rintro _ _ ⟨rfl,rfl⟩
    go_wp2_with fail
    refine(HKD.out _ HR.out).mono ?_;rintro _ _ ⟨rfl,rfl⟩
    go_wp2_with fail
    refine(HTA.out _ HR.out).mono ?_;rintro _ w2 ⟨rfl,hg2,hr2⟩
    have HG2:=aA (HG.out.trans hg2)
    have HR2:=aA hr2
    have HOD2:=aA (HO.out.grown hg2 ⟨HR.out.other,HNR.out⟩)
    clear hg2 hr2
    go_wp2_with fail
    refine(HTB.out _ HR2.out).mono ?_;rintro _ w3 ⟨rfl,hg3,hr3⟩
    have HG3:=aA (HG2.out.trans hg3)
    have HR3:=aA hr3
    have HOD3:=aA (HOD2.out.grown hg3 ⟨HR2.out.other,HNR.out⟩)
    clear hg3 hr3
    go_upto_region 11 with fail
    obtain⟨w4,hw4⟩:∃x,x=w3.alloc (.cells #[.string (K.str n.t),.complex .f64 (Fl.fl (Pl.pos (L.take n.o)).1) (Fl.fl (Pl.pos (L.take n.o)).2)] 112):=⟨_,rfl⟩
    rw[←hw4]
    have HG4:Hid (w.grownBy w4 (some R)):=aA (by rw[hw4];exact aF HG3.out _)
    have HRD4:Hid (Rd8 L B R px py w4 m3):=aA (by rw[hw4];exact HR3.out.alloc _)
    have HB4:Hid (w4.heap[w3.heap.size]?=some (.cells #[.string (K.str n.t),.complex .f64 (Fl.fl (Pl.pos (L.take n.o)).1) (Fl.fl (Pl.pos (L.take n.o)).2)] 112 (0,0))):=aA (by rw[hw4];exact heap_alloc_new w3 _)
    have HOD4:Hid (bE L w4 w.heap.size (.slice Aa acc.length ca) acc):=aA (by rw[hw4];exact HOD3.out.alloc5 _)
    have hs4:w.heap.size≤w4.heap.size:=HG4.out.size
    have hne3:w3.heap.size≠R:=by have:=HR3.out.lt;omega
    clear hw4 HOD2 HOD3
    have CL0:=fun y:Calm.OnB w3.heap.size w4=>(show y.1.cell? ⟨w3.heap.size,0,none⟩=some (.string (K.str n.t)) by rw[cell_of_row y.1 _ 0 _ _ _ (y.2.trans HB4.out)];rfl)
    have CL1:=fun y:Calm.OnB w3.heap.size w4=>(show y.1.cell? ⟨w3.heap.size,1,none⟩=some (.complex .f64 (Fl.fl (Pl.pos (L.take n.o)).1) (Fl.fl (Pl.pos (L.take n.o)).2)) by rw[cell_of_row y.1 _ 1 _ _ _ (y.2.trans HB4.out)];rfl)
    have hd4:w4.grownBy w4.drew (some R):=aJ w4 _
    have HM:=aA (fun(x:World) (h:w4.grownBy x (some R))=>h.block w3.heap.size (Array.getElem?_eq_some_iff.1 HB4.out).1 (fun e=>by injection e with e;omega))
    have HRS:=aA (fun(x:World) (h:Rd8 L B R px py x m3)=>zii L B R px py m3 x h)
    refine Calm.region_tree (fun x=>∃y:Calm.OnB w3.heap.size w4,x=y.1) (.two [0,1,2,4] 3 (.one [] 5 (.one [] 6 (.one [7] 8 (.one [] 9 (.fin [10]))))) 5 (.one [] 3 (.one [] 6 (.one [7] 8 (.one [] 9 (.fin [10])))))) (by kernel_rfl) (by kernel_rfl) (fun _ _ d _ _ h=>by cases d <;> exact h) ⟨⟨w4.drew,HM.out _ hd4⟩,rfl⟩ ?_
    simp only[Calm.wpT,Calm.wpSt,Calm.pickOps,List.getElem?_toArray,List.getElem?_cons_zero,List.getElem?_cons_succ]
    repeat (go_big_quiet_step (fail))
    refine wpQuiet_nil ?_
    clear CL0 CL1
    refine⟨?_,?_⟩
    ·intro KK hKK
     rw[if_pos (by rfl)]
     go_wp2_with fail
     obtain⟨w5,hw5⟩:∃x,x=(w4.alloc (.cells #[.string (K.str n.t),.complex .f64 (Fl.fl (Pl.pos (L.take n.o)).1) (Fl.fl (Pl.pos (L.take n.o)).2)] 112)).drew:=⟨_,rfl⟩
     rw[←hw5]
     have hg5:w4.grownBy w5 .none:=by rw[hw5];exact(aF (World.grownBy.refl _ _) _).trans (aJ _ _)
     have ho5:bJ L w5 w4.heap.size (.slice (some ⟨w4.heap.size,0,none⟩) 1 1) [n]:=by rw[hw5];exact zc3 L w4 _ n (Nat.le_refl _)
     have hrd5:=HRD4.out.row hg5
     clear hw5
     refine hKK _ _ ⟨⟨w5,HM.out _ (hg5.row _)⟩,rfl⟩ (fun x=>∃y:Calm.OnB w3.heap.size w4,x=y.1) (fun _ h=>h) ⟨⟨w5,HM.out _ (hg5.row _)⟩,rfl⟩ ?_
     refine wpQuiet_nil ?_
     intro KK hKK
     try rw[if_pos (by rfl)]
     go_wp2_with fail
     refine(HRS.out _ hrd5).mono ?_;rintro _ w6 ⟨hg6,v6,rfl,hof,hrd6⟩
     have HG6:Hid (w4.grownBy w6 (some R)):=aA ((hg5.row _).trans hg6)
     have ho6:=ho5.grown hg6 hrd5.other
     have HRD6:=aA hrd6
     obtain⟨A6,c6,rfl,_,_,hrr6⟩:=hof.rd
     have HRR6:=aA (hrr6.less hg5.size)
     clear hg5 ho5 hrd5 hg6 hof hrd6 hrr6
     go_wp2_with fail
     refine hKK _ _ ⟨⟨w6,HM.out _ HG6.out⟩,rfl⟩ (fun x=>∃y:Calm.OnB w3.heap.size w4,x=y.1) (fun _ h=>h) ⟨⟨w6,HM.out _ HG6.out⟩,rfl⟩ ?_
     have SV:Hid ((Value.slice (some ⟨w4.heap.size,0,none⟩) 1 1:Value)=.slice (some ⟨w4.heap.size,0,none⟩) 1 1):=aA rfl
     refine wpQuiet_nil ?_
     intro KK hKK
     try rw[if_pos (by rfl)]
     have HO6:=aA ho6
     clear ho6
     refine zde (.tmp 65) (.tmp 67) _ rfl Tryz.underlying118 L w4.heap.size w4.heap.size _ [n] rfl HO6.out A6 _ c6 _ rfl rfl HRR6.out (by have:=HTW.out;rw[List.length_singleton];omega) (by have:=HG6.out.size;omega) ?_
     intro v7 w7 ho7 hg7
     have hg7':w4.grownBy w7 (some R):=zad HG6.out HO6.out hg7
     have hrd7:=HRD6.out.own HO6.out hg7 (by omega)
     have hod7:=HOD4.out.grown hg7' ⟨HRD4.out.other,HNR.out⟩
     obtain⟨A7,c7,hv7,_,_,hrr7⟩:=ho7.rd
     rw[show([n]++m3.takeWhile Y.isRef).length=(m3.takeWhile Y.isRef).length+1 by rw[List.length_append,List.length_singleton];omega]at hv7
     subst hv7
     have HRR7:=aA hrr7
     have HRD7:=aA hrd7
     have HG7:=aA hg7'
     have HOD7:=aA hod7
     have HRRd:Hid (RdR L w7 w.heap.size A7 d.ns):=aA (by rw[←HDN.out];exact hrr7.less hs4)
     clear ho7 hg7 hg7' hrr7 hrd7 hod7
     go_wp2_with fail
     refine hKK _ _ ⟨⟨w7,HM.out _ HG7.out⟩,rfl⟩ (fun x=>∃y:Calm.OnB w3.heap.size w4,x=y.1) (fun _ h=>h) ⟨⟨w7,HM.out _ HG7.out⟩,rfl⟩ ?_
     repeat (go_big_quiet_step (fail))
     refine wpQuiet_nil ?_
     intro KK hKK
     try rw[if_pos (by rfl)]
     go_wp2_with fail
     have HG8:=aA (aF HG7.out (.cells #[.int .i64 4,.slice A7 ((m3.takeWhile Y.isRef).length+1) c7] 154))
     have HCE:=aA (fun j u (hj:(za0 d A7 c7)[j]?=some u)=>(aK w7 [.int .i64 4,.slice A7 ((m3.takeWhile Y.isRef).length+1) c7] 154 j).trans (HDC.out A7 c7▸hj))
     refine hKK _ _ ⟨⟨_,HM.out _ HG8.out⟩,rfl⟩ (fun x=>∃y:Calm.OnB w3.heap.size w4,x=y.1) (fun _ h=>h) ⟨⟨_,HM.out _ HG8.out⟩,rfl⟩ ?_
     refine wpQuiet_nil ?_
     intro KK hKK
     try rw[if_pos (by rfl)]
     refine zeK (.tmp 62) (.tmp 70) _ rfl Tryz.underlying75 L w.heap.size (.slice Aa acc.length ca) acc rfl (HOD7.out.alloc5 _) w7.heap.size 1 d A7 c7 rfl HCE.out (HRRd.out.grown (aF (World.grownBy.refl _ _) _) (a8.none _)) (by have:=HLM.out;omega) (by have:=HG7.out.size;simp;omega) ?_
     intro v9 w9 ho9 hg9
     obtain⟨z9,hz9⟩:=(HOD7.out.alloc5 (.cells #[.int .i64 4,.slice A7 ((m3.takeWhile Y.isRef).length+1) c7] 154)).own
     have HG9:=aA (zad (HG4.out.trans HG8.out) hz9 hg9)
     have HG94:=aA (World.grownBy.block hg9 w3.heap.size (by have h1:=(Array.getElem?_eq_some_iff.1 HB4.out).1;have h2:=HG8.out.size;omega) (by rcases aP hz9 ((HM.out _ HG8.out).trans HB4.out) (fun cur e=>by injection e with _ e;exact absurd e (by decide)) with q|q;rw[q];simp;exact fun e=>q e.symm))
     have HM9:=aA (HG94.out.trans (HM.out _ HG8.out))
     have HRD9:=aA ((HRD7.out.alloc (.cells #[.int .i64 4,.slice A7 ((m3.takeWhile Y.isRef).length+1) c7] 154)).own hz9 hg9 hRlt)
     obtain⟨A9,c9,hv9,_,_⟩:=ho9.form
     rw[show(acc++[d]).length=acc.length+1 by simp]at hv9
     subst hv9
     have HO9:=aA ho9
     clear ho9 hg9
     go_wp2_with fail
     refine hKK _ _ ⟨⟨w9,HM9.out⟩,rfl⟩ (fun x=>∃y:Calm.OnB w3.heap.size w4,x=y.1) (fun _ h=>h) ⟨⟨w9,HM9.out⟩,rfl⟩ ?_
     repeat (go_big_quiet_step (fail))
     refine wpQuiet_nil ?_
     go_wp2_with fail
     go_roundw
     case rel=>exact⟨acc++[d],m3.dropWhile Y.isRef,f,HNX.out.1,HNX.out.2.1,HO9.out,HRD9.out,HG9.out,HNX.out.2.2⟩
     case measure=>have:=HLM.out;simp[zcl];omega
    ·intro KK hKK
     rw[if_pos (by rfl)]
     go_wp2_with fail
     refine(HRS.out _ HRD4.out.drew).mono ?_;rintro _ w5 ⟨hg5',v5,rfl,hof,hrd5⟩
     have hg5:w4.grownBy w5 (some R):=hd4.trans hg5'
     obtain⟨A6,c6,rfl,_,_,hrr5⟩:=hof.rd
     go_wp2_with fail
     refine hKK _ _ ⟨⟨w5,HM.out _ hg5⟩,rfl⟩ (fun x=>∃y:Calm.OnB w3.heap.size w4,x=y.1) (fun _ h=>h) ⟨⟨w5,HM.out _ hg5⟩,rfl⟩ ?_
     refine wpQuiet_nil ?_
     intro KK hKK
     try rw[if_pos (by rfl)]
     go_wp2_with fail
     obtain⟨w6,hw6⟩:∃x,x=w5.alloc (.cells #[.string (K.str n.t),.complex .f64 (Fl.fl (Pl.pos (L.take n.o)).1) (Fl.fl (Pl.pos (L.take n.o)).2)] 112):=⟨_,rfl⟩
     rw[←hw6]
     have HG6:Hid (w4.grownBy w6 (some R)):=aA (by rw[hw6];exact aF hg5 _)
     have ho6:bJ L w6 w4.heap.size (.slice (some ⟨w5.heap.size,0,none⟩) 1 1) [n]:=by rw[hw6];exact zc3 L w5 _ n hg5.size
     have HRD6:Hid (Rd8 L B R px py w6 (m3.dropWhile Y.isRef)):=aA (by rw[hw6];exact hrd5.alloc _)
     have HRR6:Hid (RdR L w6 w4.heap.size A6 (m3.takeWhile Y.isRef)):=aA (by rw[hw6];exact(hrr5.less (Nat.le_refl _)).grown (aF (World.grownBy.refl _ _) _) (a8.none _))
     clear hw6 hg5 hg5' hof hrr5 hrd5
     refine hKK _ _ ⟨⟨w6,HM.out _ HG6.out⟩,rfl⟩ (fun x=>∃y:Calm.OnB w3.heap.size w4,x=y.1) (fun _ h=>h) ⟨⟨w6,HM.out _ HG6.out⟩,rfl⟩ ?_
     refine wpQuiet_nil ?_
     intro KK hKK
     try rw[if_pos (by rfl)]
     have HO6:=aA ho6
     clear ho6
     refine zde (.tmp 65) (.tmp 67) _ rfl Tryz.underlying118 L w4.heap.size w4.heap.size _ [n] rfl HO6.out A6 _ c6 _ rfl rfl HRR6.out (by have:=HTW.out;rw[List.length_singleton];omega) (by have:=HG6.out.size;omega) ?_
     intro v7 w7 ho7 hg7
     have hg7':w4.grownBy w7 (some R):=zad HG6.out HO6.out hg7
     have hrd7:=HRD6.out.own HO6.out hg7 (by omega)
     have hod7:=HOD4.out.grown hg7' ⟨HRD4.out.other,HNR.out⟩
     obtain⟨A7,c7,hv7,_,_,hrr7⟩:=ho7.rd
     rw[show([n]++m3.takeWhile Y.isRef).length=(m3.takeWhile Y.isRef).length+1 by rw[List.length_append,List.length_singleton];omega]at hv7
     subst hv7
     have HRR7:=aA hrr7
     have HRD7:=aA hrd7
     have HG7:=aA hg7'
     have HOD7:=aA hod7
     have HRRd:Hid (RdR L w7 w.heap.size A7 d.ns):=aA (by rw[←HDN.out];exact hrr7.less hs4)
     clear ho7 hg7 hg7' hrr7 hrd7 hod7
     go_wp2_with fail
     refine hKK _ _ ⟨⟨w7,HM.out _ HG7.out⟩,rfl⟩ (fun x=>∃y:Calm.OnB w3.heap.size w4,x=y.1) (fun _ h=>h) ⟨⟨w7,HM.out _ HG7.out⟩,rfl⟩ ?_
     repeat (go_big_quiet_step (fail))
     refine wpQuiet_nil ?_
     intro KK hKK
     try rw[if_pos (by rfl)]
     go_wp2_with fail
     have HG8:=aA (aF HG7.out (.cells #[.int .i64 4,.slice A7 ((m3.takeWhile Y.isRef).length+1) c7] 154))
     have HCE:=aA (fun j u (hj:(za0 d A7 c7)[j]?=some u)=>(aK w7 [.int .i64 4,.slice A7 ((m3.takeWhile Y.isRef).length+1) c7] 154 j).trans (HDC.out A7 c7▸hj))
     refine hKK _ _ ⟨⟨_,HM.out _ HG8.out⟩,rfl⟩ (fun x=>∃y:Calm.OnB w3.heap.size w4,x=y.1) (fun _ h=>h) ⟨⟨_,HM.out _ HG8.out⟩,rfl⟩ ?_
     refine wpQuiet_nil ?_
     intro KK hKK
     try rw[if_pos (by rfl)]
     refine zeK (.tmp 62) (.tmp 70) _ rfl Tryz.underlying75 L w.heap.size (.slice Aa acc.length ca) acc rfl (HOD7.out.alloc5 _) w7.heap.size 1 d A7 c7 rfl HCE.out (HRRd.out.grown (aF (World.grownBy.refl _ _) _) (a8.none _)) (by have:=HLM.out;omega) (by have:=HG7.out.size;simp;omega) ?_
     intro v9 w9 ho9 hg9
     obtain⟨z9,hz9⟩:=(HOD7.out.alloc5 (.cells #[.int .i64 4,.slice A7 ((m3.takeWhile Y.isRef).length+1) c7] 154)).own
     have HG9:=aA (zad (HG4.out.trans HG8.out) hz9 hg9)
     have HG94:=aA (World.grownBy.block hg9 w3.heap.size (by have h1:=(Array.getElem?_eq_some_iff.1 HB4.out).1;have h2:=HG8.out.size;omega) (by rcases aP hz9 ((HM.out _ HG8.out).trans HB4.out) (fun cur e=>by injection e with _ e;exact absurd e (by decide)) with q|q;rw[q];simp;exact fun e=>q e.symm))
     have HM9:=aA (HG94.out.trans (HM.out _ HG8.out))
     have HRD9:=aA ((HRD7.out.alloc (.cells #[.int .i64 4,.slice A7 ((m3.takeWhile Y.isRef).length+1) c7] 154)).own hz9 hg9 hRlt)
     obtain⟨A9,c9,hv9,_,_⟩:=ho9.form
     rw[show(acc++[d]).length=acc.length+1 by simp]at hv9
     subst hv9
     have HO9:=aA ho9
     clear ho9 hg9
     go_wp2_with fail
     refine hKK _ _ ⟨⟨w9,HM9.out⟩,rfl⟩ (fun x=>∃y:Calm.OnB w3.heap.size w4,x=y.1) (fun _ h=>h) ⟨⟨w9,HM9.out⟩,rfl⟩ ?_
     repeat (go_big_quiet_step (fail))
     refine wpQuiet_nil ?_
     go_wp2_with fail
     go_roundw
     case rel=>exact⟨acc++[d],m3.dropWhile Y.isRef,f,HNX.out.1,HNX.out.2.1,HO9.out,HRD9.out,HG9.out,HNX.out.2.2⟩
     case measure=>have:=HLM.out;simp[zcl];omega
   ·go_wp2_with fail
    refine(HKD.out _ HR.out).mono ?_;rintro _ _ ⟨rfl,rfl⟩
    go_wp2_with fail
    refine(HKD.out _ HR.out).mono ?_;rintro _ _ ⟨rfl,rfl⟩
    go_wp2_with fail
    refine(HTA.out _ HR.out).mono ?_;rintro _ w2 ⟨rfl,hg2,hr2⟩
    have HG2:=aA (HG.out.trans hg2)
    have HR2:=aA hr2
    have HOD2:=aA (HO.out.grown hg2 ⟨HR.out.other,HNR.out⟩)
    clear hg2 hr2
    go_wp2_with fail
    refine(HTB.out _ HR2.out).mono ?_;rintro _ w3 ⟨rfl,hg3,hr3⟩
    have HG3:=aA (HG2.out.trans hg3)
    have HR3:=aA hr3
    have HOD3:=aA (HOD2.out.grown hg3 ⟨HR2.out.other,HNR.out⟩)
    clear hg3 hr3
    go_upto_region 11 with fail
    obtain⟨w4,hw4⟩:∃x,x=w3.alloc (.cells #[.string (K.str n.t),.complex .f64 (Fl.fl (Pl.pos (L.take n.o)).1) (Fl.fl (Pl.pos (L.take n.o)).2)] 112):=⟨_,rfl⟩
    rw[←hw4]
    have HG4:Hid (w.grownBy w4 (some R)):=aA (by rw[hw4];exact aF HG3.out _)
    have HRD4:Hid (Rd8 L B R px py w4 m3):=aA (by rw[hw4];exact HR3.out.alloc _)
    have HB4:Hid (w4.heap[w3.heap.size]?=some (.cells #[.string (K.str n.t),.complex .f64 (Fl.fl (Pl.pos (L.take n.o)).1) (Fl.fl (Pl.pos (L.take n.o)).2)] 112 (0,0))):=aA (by rw[hw4];exact heap_alloc_new w3 _)
    have HOD4:Hid (bE L w4 w.heap.size (.slice Aa acc.length ca) acc):=aA (by rw[hw4];exact HOD3.out.alloc5 _)
    have hs4:w.heap.size≤w4.heap.size:=HG4.out.size
    have hne3:w3.heap.size≠R:=by have:=HR3.out.lt;omega
    clear hw4 HOD2 HOD3
    have CL0:=fun y:Calm.OnB w3.heap.size w4=>(show y.1.cell? ⟨w3.heap.size,0,none⟩=some (.string (K.str n.t)) by rw[cell_of_row y.1 _ 0 _ _ _ (y.2.trans HB4.out)];rfl)
    have CL1:=fun y:Calm.OnB w3.heap.size w4=>(show y.1.cell? ⟨w3.heap.size,1,none⟩=some (.complex .f64 (Fl.fl (Pl.pos (L.take n.o)).1) (Fl.fl (Pl.pos (L.take n.o)).2)) by rw[cell_of_row y.1 _ 1 _ _ _ (y.2.trans HB4.out)];rfl)
    have hd4:w4.grownBy w4.drew (some R):=aJ w4 _
    have HM:=aA (fun(x:World) (h:w4.grownBy x (some R))=>h.block w3.heap.size (Array.getElem?_eq_some_iff.1 HB4.out).1 (fun e=>by injection e with e;omega))
    have HRS:=aA (fun(x:World) (h:Rd8 L B R px py x m3)=>zii L B R px py m3 x h)
    refine Calm.region_tree (fun x=>∃y:Calm.OnB w3.heap.size w4,x=y.1) (.two [0,1,2,4] 3 (.one [] 5 (.one [] 6 (.one [7] 8 (.one [] 9 (.fin [10]))))) 5 (.one [] 3 (.one [] 6 (.one [7] 8 (.one [] 9 (.fin [10])))))) (by kernel_rfl) (by kernel_rfl) (fun _ _ d _ _ h=>by cases d <;> exact h) ⟨⟨w4.drew,HM.out _ hd4⟩,rfl⟩ ?_
    simp only[Calm.wpT,Calm.wpSt,Calm.pickOps,List.getElem?_toArray,List.getElem?_cons_zero,List.getElem?_cons_succ]
    repeat (go_big_quiet_step (fail))
    refine wpQuiet_nil ?_
    clear CL0 CL1
    refine⟨?_,?_⟩
    ·intro KK hKK
     rw[if_pos (by rfl)]
     go_wp2_with fail
     obtain⟨w5,hw5⟩:∃x,x=(w4.alloc (.cells #[.string (K.str n.t),.complex .f64 (Fl.fl (Pl.pos (L.take n.o)).1) (Fl.fl (Pl.pos (L.take n.o)).2)] 112)).drew:=⟨_,rfl⟩
     rw[←hw5]
     have hg5:w4.grownBy w5 .none:=by rw[hw5];exact(aF (World.grownBy.refl _ _) _).trans (aJ _ _)
     have ho5:bJ L w5 w4.heap.size (.slice (some ⟨w4.heap.size,0,none⟩) 1 1) [n]:=by rw[hw5];exact zc3 L w4 _ n (Nat.le_refl _)
     have hrd5:=HRD4.out.row hg5
     clear hw5
     refine hKK _ _ ⟨⟨w5,HM.out _ (hg5.row _)⟩,rfl⟩ (fun x=>∃y:Calm.OnB w3.heap.size w4,x=y.1) (fun _ h=>h) ⟨⟨w5,HM.out _ (hg5.row _)⟩,rfl⟩ ?_
     refine wpQuiet_nil ?_
     intro KK hKK
     try rw[if_pos (by rfl)]
     go_wp2_with fail
     refine(HRS.out _ hrd5).mono ?_;rintro _ w6 ⟨hg6,v6,rfl,hof,hrd6⟩
     have HG6:Hid (w4.grownBy w6 (some R)):=aA ((hg5.row _).trans hg6)
     have ho6:=ho5.grown hg6 hrd5.other
     have HRD6:=aA hrd6
     obtain⟨A6,c6,rfl,_,_,hrr6⟩:=hof.rd
     have HRR6:=aA (hrr6.less hg5.size)
     clear hg5 ho5 hrd5 hg6 hof hrd6 hrr6
     go_wp2_with fail
     refine hKK _ _ ⟨⟨w6,HM.out _ HG6.out⟩,rfl⟩ (fun x=>∃y:Calm.OnB w3.heap.size w4,x=y.1) (fun _ h=>h) ⟨⟨w6,HM.out _ HG6.out⟩,rfl⟩ ?_
     have SV:Hid ((Value.slice (some ⟨w4.heap.size,0,none⟩) 1 1:Value)=.slice (some ⟨w4.heap.size,0,none⟩) 1 1):=aA rfl
     refine wpQuiet_nil ?_
     intro KK hKK
     try rw[if_pos (by rfl)]
     have HO6:=aA ho6
     clear ho6
     refine zde (.tmp 65) (.tmp 67) _ rfl Tryz.underlying118 L w4.heap.size w4.heap.size _ [n] rfl HO6.out A6 _ c6 _ rfl rfl HRR6.out (by have:=HTW.out;rw[List.length_singleton];omega) (by have:=HG6.out.size;omega) ?_
     intro v7 w7 ho7 hg7
     have hg7':w4.grownBy w7 (some R):=zad HG6.out HO6.out hg7
     have hrd7:=HRD6.out.own HO6.out hg7 (by omega)
     have hod7:=HOD4.out.grown hg7' ⟨HRD4.out.other,HNR.out⟩
     obtain⟨A7,c7,hv7,_,_,hrr7⟩:=ho7.rd
     rw[show([n]++m3.takeWhile Y.isRef).length=(m3.takeWhile Y.isRef).length+1 by rw[List.length_append,List.length_singleton];omega]at hv7
     subst hv7
     have HRR7:=aA hrr7
     have HRD7:=aA hrd7
     have HG7:=aA hg7'
     have HOD7:=aA hod7
     have HRRd:Hid (RdR L w7 w.heap.size A7 d.ns):=aA (by rw[←HDN.out];exact hrr7.less hs4)
     clear ho7 hg7 hg7' hrr7 hrd7 hod7
     go_wp2_with fail
     refine hKK _ _ ⟨⟨w7,HM.out _ HG7.out⟩,rfl⟩ (fun x=>∃y:Calm.OnB w3.heap.size w4,x=y.1) (fun _ h=>h) ⟨⟨w7,HM.out _ HG7.out⟩,rfl⟩ ?_
     repeat (go_big_quiet_step (fail))
     refine wpQuiet_nil ?_
     intro KK hKK
     try rw[if_pos (by rfl)]
     go_wp2_with fail
     have HG8:=aA (aF HG7.out (.cells #[.int .i64 5,.slice A7 ((m3.takeWhile Y.isRef).length+1) c7] 154))
     have HCE:=aA (fun j u (hj:(za0 d A7 c7)[j]?=some u)=>(aK w7 [.int .i64 5,.slice A7 ((m3.takeWhile Y.isRef).length+1) c7] 154 j).trans (HDC.out A7 c7▸hj))
     refine hKK _ _ ⟨⟨_,HM.out _ HG8.out⟩,rfl⟩ (fun x=>∃y:Calm.OnB w3.heap.size w4,x=y.1) (fun _ h=>h) ⟨⟨_,HM.out _ HG8.out⟩,rfl⟩ ?_
     refine wpQuiet_nil ?_
     intro KK hKK
     try rw[if_pos (by rfl)]
     refine zeK (.tmp 62) (.tmp 70) _ rfl Tryz.underlying75 L w.heap.size (.slice Aa acc.length ca) acc rfl (HOD7.out.alloc5 _) w7.heap.size 1 d A7 c7 rfl HCE.out (HRRd.out.grown (aF (World.grownBy.refl _ _) _) (a8.none _)) (by have:=HLM.out;omega) (by have:=HG7.out.size;simp;omega) ?_
     intro v9 w9 ho9 hg9
     obtain⟨z9,hz9⟩:=(HOD7.out.alloc5 (.cells #[.int .i64 5,.slice A7 ((m3.takeWhile Y.isRef).length+1) c7] 154)).own
     have HG9:=aA (zad (HG4.out.trans HG8.out) hz9 hg9)
     have HG94:=aA (World.grownBy.block hg9 w3.heap.size (by have h1:=(Array.getElem?_eq_some_iff.1 HB4.out).1;have h2:=HG8.out.size;omega) (by rcases aP hz9 ((HM.out _ HG8.out).trans HB4.out) (fun cur e=>by injection e with _ e;exact absurd e (by decide)) with q|q;rw[q];simp;exact fun e=>q e.symm))
     have HM9:=aA (HG94.out.trans (HM.out _ HG8.out))
     have HRD9:=aA ((HRD7.out.alloc (.cells #[.int .i64 5,.slice A7 ((m3.takeWhile Y.isRef).length+1) c7] 154)).own hz9 hg9 hRlt)
     obtain⟨A9,c9,hv9,_,_⟩:=ho9.form
     rw[show(acc++[d]).length=acc.length+1 by simp]at hv9
     subst hv9
     have HO9:=aA ho9
     clear ho9 hg9
     go_wp2_with fail
     refine hKK _ _ ⟨⟨w9,HM9.out⟩,rfl⟩ (fun x=>∃y:Calm.OnB w3.heap.size w4,x=y.1) (fun _ h=>h) ⟨⟨w9,HM9.out⟩,rfl⟩ ?_
     repeat (go_big_quiet_step (fail))
     refine wpQuiet_nil ?_
     go_wp2_with fail
     go_roundw
     case rel=>exact⟨acc++[d],m3.dropWhile Y.isRef,f,HNX.out.1,HNX.out.2.1,HO9.out,HRD9.out,HG9.out,HNX.out.2.2⟩
     case measure=>have:=HLM.out;simp[zcl];omega
    ·intro KK hKK
     rw[if_pos (by rfl)]
     go_wp2_with fail
     refine(HRS.out _ HRD4.out.drew).mono ?_;rintro _ w5 ⟨hg5',v5,rfl,hof,hrd5⟩
     have hg5:w4.grownBy w5 (some R):=hd4.trans hg5'
     obtain⟨A6,c6,rfl,_,_,hrr5⟩:=hof.rd
     go_wp2_with fail
     refine hKK _ _ ⟨⟨w5,HM.out _ hg5⟩,rfl⟩ (fun x=>∃y:Calm.OnB w3.heap.size w4,x=y.1) (fun _ h=>h) ⟨⟨w5,HM.out _ hg5⟩,rfl⟩ ?_
     refine wpQuiet_nil ?_
     intro KK hKK
     try rw[if_pos (by rfl)]
     go_wp2_with fail
     obtain⟨w6,hw6⟩:∃x,x=w5.alloc (.cells #[.string (K.str n.t),.complex .f64 (Fl.fl (Pl.pos (L.take n.o)).1) (Fl.fl (Pl.pos (L.take n.o)).2)] 112):=⟨_,rfl⟩
     rw[←hw6]
     have HG6:Hid (w4.grownBy w6 (some R)):=aA (by rw[hw6];exact aF hg5 _)
     have ho6:bJ L w6 w4.heap.size (.slice (some ⟨w5.heap.size,0,none⟩) 1 1) [n]:=by rw[hw6];exact zc3 L w5 _ n hg5.size
     have HRD6:Hid (Rd8 L B R px py w6 (m3.dropWhile Y.isRef)):=aA (by rw[hw6];exact hrd5.alloc _)
     have HRR6:Hid (RdR L w6 w4.heap.size A6 (m3.takeWhile Y.isRef)):=aA (by rw[hw6];exact(hrr5.less (Nat.le_refl _)).grown (aF (World.grownBy.refl _ _) _) (a8.none _))
     clear hw6 hg5 hg5' hof hrr5 hrd5
     refine hKK _ _ ⟨⟨w6,HM.out _ HG6.out⟩,rfl⟩ (fun x=>∃y:Calm.OnB w3.heap.size w4,x=y.1) (fun _ h=>h) ⟨⟨w6,HM.out _ HG6.out⟩,rfl⟩ ?_
     refine wpQuiet_nil ?_
     intro KK hKK
     try rw[if_pos (by rfl)]
     have HO6:=aA ho6
     clear ho6
     refine zde (.tmp 65) (.tmp 67) _ rfl Tryz.underlying118 L w4.heap.size w4.heap.size _ [n] rfl HO6.out A6 _ c6 _ rfl rfl HRR6.out (by have:=HTW.out;rw[List.length_singleton];omega) (by have:=HG6.out.size;omega) ?_
     intro v7 w7 ho7 hg7
     have hg7':w4.grownBy w7 (some R):=zad HG6.out HO6.out hg7
     have hrd7:=HRD6.out.own HO6.out hg7 (by omega)
     have hod7:=HOD4.out.grown hg7' ⟨HRD4.out.other,HNR.out⟩
     obtain⟨A7,c7,hv7,_,_,hrr7⟩:=ho7.rd
     rw[show([n]++m3.takeWhile Y.isRef).length=(m3.takeWhile Y.isRef).length+1 by rw[List.length_append,List.length_singleton];omega]at hv7
     subst hv7
     have HRR7:=aA hrr7
     have HRD7:=aA hrd7
     have HG7:=aA hg7'
     have HOD7:=aA hod7
     have HRRd:Hid (RdR L w7 w.heap.size A7 d.ns):=aA (by rw[←HDN.out];exact hrr7.less hs4)
     clear ho7 hg7 hg7' hrr7 hrd7 hod7
     go_wp2_with fail
     refine hKK _ _ ⟨⟨w7,HM.out _ HG7.out⟩,rfl⟩ (fun x=>∃y:Calm.OnB w3.heap.size w4,x=y.1) (fun _ h=>h) ⟨⟨w7,HM.out _ HG7.out⟩,rfl⟩ ?_
     repeat (go_big_quiet_step (fail))
     refine wpQuiet_nil ?_
     intro KK hKK
     try rw[if_pos (by rfl)]
     go_wp2_with fail
     have HG8:=aA (aF HG7.out (.cells #[.int .i64 5,.slice A7 ((m3.takeWhile Y.isRef).length+1) c7] 154))
     have HCE:=aA (fun j u (hj:(za0 d A7 c7)[j]?=some u)=>(aK w7 [.int .i64 5,.slice A7 ((m3.takeWhile Y.isRef).length+1) c7] 154 j).trans (HDC.out A7 c7▸hj))
     refine hKK _ _ ⟨⟨_,HM.out _ HG8.out⟩,rfl⟩ (fun x=>∃y:Calm.OnB w3.heap.size w4,x=y.1) (fun _ h=>h) ⟨⟨_,HM.out _ HG8.out⟩,rfl⟩ ?_
     refine wpQuiet_nil ?_
     intro KK hKK
     try rw[if_pos (by rfl)]
     refine zeK (.tmp 62) (.tmp 70) _ rfl Tryz.underlying75 L w.heap.size (.slice Aa acc.length ca) acc rfl (HOD7.out.alloc5 _) w7.heap.size 1 d A7 c7 rfl HCE.out (HRRd.out.grown (aF (World.grownBy.refl _ _) _) (a8.none _)) (by have:=HLM.out;omega) (by have:=HG7.out.size;simp;omega) ?_
     intro v9 w9 ho9 hg9
     obtain⟨z9,hz9⟩:=(HOD7.out.alloc5 (.cells #[.int .i64 5,.slice A7 ((m3.takeWhile Y.isRef).length+1) c7] 154)).own
     have HG9:=aA (zad (HG4.out.trans HG8.out) hz9 hg9)
     have HG94:=aA (World.grownBy.block hg9 w3.heap.size (by have h1:=(Array.getElem?_eq_some_iff.1 HB4.out).1;have h2:=HG8.out.size;omega) (by rcases aP hz9 ((HM.out _ HG8.out).trans HB4.out) (fun cur e=>by injection e with _ e;exact absurd e (by decide)) with q|q;rw[q];simp;exact fun e=>q e.symm))
     have HM9:=aA (HG94.out.trans (HM.out _ HG8.out))
     have HRD9:=aA ((HRD7.out.alloc (.cells #[.int .i64 5,.slice A7 ((m3.takeWhile Y.isRef).length+1) c7] 154)).own hz9 hg9 hRlt)
     obtain⟨A9,c9,hv9,_,_⟩:=ho9.form
     rw[show(acc++[d]).length=acc.length+1 by simp]at hv9
     subst hv9
     have HO9:=aA ho9
     clear ho9 hg9
     go_wp2_with fail
     refine hKK _ _ ⟨⟨w9,HM9.out⟩,rfl⟩ (fun x=>∃y:Calm.OnB w3.heap.size w4,x=y.1) (fun _ h=>h) ⟨⟨w9,HM9.out⟩,rfl⟩ ?_
     repeat (go_big_quiet_step (fail))
     refine wpQuiet_nil ?_
     go_wp2_with fail
     go_roundw
     case rel=>exact⟨acc++[d],m3.dropWhile Y.isRef,f,HNX.out.1,HNX.out.2.1,HO9.out,HRD9.out,HG9.out,HNX.out.2.2⟩
     case measure=>have:=HLM.out;simp[zcl];omega
namespace T
theorem pre_two (l:List Int) (a b:Int) (hl:K.Bytes l) (hab:K.Bytes [a,b]) (h:pre l [a,b]=true):l.getD 0 0=a∧l.getD 1 0=b:=by
 have hlen:=zb5 l _ h
 rw[pre_take l [a,b],beq_iff_eq,str_list,str_list]at h
 have h2:=K.bytes_inj (hl.take 2) hab h
 match l,hlen with
 | x::y::r,_ =>
  simp at h2
  exact⟨h2.1,h2.2⟩
theorem piece_blank (l:List Int) (h:l.getD 0 0=32∨l.getD 0 0=9∨l.getD 0 0=10∨l.getD 0 0=13):piece l=(0,1,0):=by
 unfold piece
 simp only
 rw[if_pos h]
theorem piece_47 (l:List Int) (h:l.getD 0 0=47):piece l=comment l:=by
 unfold piece
 simp only[h]
 rfl
theorem piece_60 (l:List Int) (h:l.getD 0 0=60):piece l=skip (line l) 1 [62]:=by
 unfold piece
 simp only[h]
 rfl
theorem piece_123 (l:List Int) (h:l.getD 0 0=123):piece l=action l:=by
 unfold piece
 simp only[h]
 rfl
theorem piece_37 (l:List Int) (h:l.getD 0 0=37):piece l=percent l:=by
 unfold piece
 simp only[h]
 rfl
theorem piece_else (l:List Int) (hb:¬(l.getD 0 0=32∨l.getD 0 0=9∨l.getD 0 0=10∨l.getD 0 0=13)) (h1:pre l [47,42]=false) (h2:pre l [47,47]=false) (h3:pre l [37,123]=false) (h4:¬l.getD 0 0=60) (h5:¬l.getD 0 0=123) (he:(piece l).2.2=0):(piece l).1≠0:=by
 revert he
 unfold piece
 simp only
 rw[if_neg hb,if_neg h4,if_neg h5]
 split
 ·unfold comment
  rw[h1,h2]
  simp
 split
 ·unfold percent
  rw[h3]
  have hw:=wkind_bd (List.drop 1 (List.take (psize l) l))
  split
  ·simp
  split
  ·rename_i h;simp at h
  split
  ·simp
  ·rename_i hh;intro _;exact hh
 split
 ·unfold literal
  split
  ·simp
  split
  ·simp
  split <;> simp
 split
 ·simp
 split
 ·simp
 split
 ·simp
 ·unfold name
  split
  ·simp
  split <;> simp
end T
def zcm (k:Nat) (x:T.P3):Value:=.tuple #[.int .i64 (if x.1=0 then((k+x.2.1:Nat):Int) else k),.bool (x.1==0)]
theorem zfH (w:World) (A:Option Addr) (c n k:Nat) (hk:k≤c):(Instr.sliceAt 58 (.slice A n c) none (some (.int .i64 k)) none).run Tryz.prog w=.ok (.slice A k c) w:=zgU w A c n k hk
theorem za2 {k:Nat} {x:T.P3} {P:Int} (h:x.1=0) (hp:P=((k+x.2.1:Nat):Int)):zcm k x=.tuple #[.int .i64 P,.bool true]:=by
 unfold zcm;rw[if_pos h,h,hp];rfl
theorem zei {k:Nat} {x:T.P3} (h:x.1≠0):zcm k x=.tuple #[.int .i64 k,.bool false]:=by
 unfold zcm;rw[if_neg h,show(x.1==0)=false by simpa using h]
theorem zb8 (k:Nat) (m:List Int) (f:Nat) (s:List Int) (P:Int) (hP:T.pastV m s (k+f)=P) (l:List Int) (hl:m.drop (k+f)=l.drop f) (he:(T.skip l f s).2.2=0):P=((k+(T.skip l f s).2.1:Nat):Int)∧(T.skip l f s).1=0:=by
 unfold T.pastV at hP
 rw[hl]at hP
 unfold T.skip at he ⊢
 by_cases h:T.ix (l.drop f) s<0
 ·rw[if_pos h]at he;simp at he
 ·rw[if_neg h]at he ⊢
  rw[if_neg h]at hP
  refine⟨?_,rfl⟩
  simp only
  omega
theorem zfO (A:Option Addr) (c B:Nat) (L:List Int) (k:Nat) (w:World) (hr:RdB w B A L) (hl:K.Bytes L) (hc:L.length≤c) (hn:L.length≤5000) (hk:k<L.length) (he:(T.piece (L.drop k)).2.2=0) :
  Calls Tryz.prog 98 #[.slice A L.length c,.int .i64 k] w fun e w'=>e=.returned (zcm k (T.piece (L.drop k)))∧w=w':=by
 obtain⟨g,o,rfl,_,hcl⟩:=hr (by omega)
 have hcell:=hcl k hk
 have hz:(L.drop k).getD 0 0=L.getD k 0:=by rw[Go.Proofs.YtabmfpgpkbndeaaGreat.L.cons_drop L k hk];rfl
 have H1:=aA (zaT _ c B L [47,42] k w hr hl hc hn (by omega) (by decide))
 have H2:=aA (zaT _ c B L [47,47] k w hr hl hc hn (by omega) (by decide))
 have H3:=aA (zaT _ c B L [37,123] k w hr hl hc hn (by omega) (by decide))
 rw[show K.str [47,42]=⟨#[47,42]⟩ from rfl]at H1
 rw[show K.str [47,47]=⟨#[47,47]⟩ from rfl]at H2
 rw[show K.str [37,123]=⟨#[37,123]⟩ from rfl]at H3
 have HPB:=aA (T.piece_blank (L.drop k))
 have HEL:=aA (T.piece_else (L.drop k))
 rw[hz]at HPB HEL
 have HR:=aA hr
 have HL:=aA hl
 have HE:=aA he
 have HZ:=aA hz
 have hlb:=hl.drop k
 clear hcl hr hl he hz
 by_cases hb:L.getD k 0=32∨L.getD k 0=9∨L.getD k 0=10∨L.getD k 0=13
 ·have hp:=HPB.out hb
  rw[hp]
  unfold zcm
  clear H1 H2 H3 HPB HEL hp HE hlb
  generalize L.getD k 0=z at *
  rcases hb with rfl|rfl|rfl|rfl
  all_goals
   go_enter Tryz.func98,Tryz.ntmps98
   go_wp2
   go_ret2
   exact⟨rfl,rfl⟩
 ·have n1:(L.getD k 0==32)=false:=by simpa using fun e=>hb (.inl e)
  have n2:(L.getD k 0==9)=false:=by simpa using fun e=>hb (.inr (.inl e))
  have n3:(L.getD k 0==10)=false:=by simpa using fun e=>hb (.inr (.inr (.inl e)))
  have n4:(L.getD k 0==13)=false:=by simpa using fun e=>hb (.inr (.inr (.inr e)))
  rcases hp1:T.pre (L.drop k) [47,42] with _|_
  ·rw[hp1]at H1
   rcases hp2:T.pre (L.drop k) [47,47] with _|_
   ·rw[hp2]at H2
    rcases hp3:T.pre (L.drop k) [37,123] with _|_
    ·rw[hp3]at H3
     by_cases h60:L.getD k 0=60
     ·have hz1:(L.drop k).getD 0 0=60:=HZ.out.trans h60
      have hpc:T.piece (L.drop k)=T.skip (T.line (L.drop k)) 1 [62]:=T.piece_60 _ hz1
      have hll:=T.line_le (L.drop k)
      rw[List.length_drop]at hll
      have hlt:T.line (L.drop k)=(L.drop k).take (T.line (L.drop k)).length:=by
       unfold T.line
       have hx:=T.ix_room (L.drop k) [10]
       split
       ·rw[List.length_take,Nat.min_eq_left (by have:=hx (by assumption);omega)]
       ·rw[List.take_length]
      have hmm:(L.take (k+(T.line (L.drop k)).length)).drop (k+1)=(T.line (L.drop k)).drop 1:=by
       have e:∀ll,(L.take (k+ll)).drop (k+1)=((L.drop k).take ll).drop 1:=fun ll=>by
        rw[List.drop_take,List.drop_take,List.drop_drop]
        congr 1
        omega
       exact(e _).trans (congrArg (List.drop 1) hlt.symm)
      have hq:=zb8 k (L.take (k+(T.line (L.drop k)).length)) 1 [62] _ rfl (T.line (L.drop k)) hmm (by rw[←hpc];exact HE.out)
      have hv:=za2 (k:=k) hq.2 hq.1
      rw[←hpc]at hv
      rw[hv]
      have HLN:=aA (zdu _ c B L k w HR.out HL.out hn (by omega))
      have hml:(L.take (k+(T.line (L.drop k)).length)).length=k+(T.line (L.drop k)).length:=by rw[List.length_take];omega
      have HP:=aA (zbY _ c B (L.take (k+(T.line (L.drop k)).length)) [62] (k+1) w (HR.out.take _) (HL.out.take _) (by rw[hml];omega) (by rw[hml];omega) (by omega) (by decide) (by decide))
      rw[hml,show K.str [62]=⟨#[62]⟩ from rfl,show((k+1:Nat):Int)=(k:Int)+1 by omega]at HP
      have S1:=fun w=>zfH w (some ⟨g,o,none⟩) c L.length (k+(T.line (L.drop k)).length) (by omega)
      have q60:(L.getD k 0==60)=true:=by rw[h60];rfl
      generalize T.pastV (L.take (k+(T.line (L.drop k)).length)) [62] (k+1)=P at *
      generalize k+(T.line (L.drop k)).length=m at *
      clear hb HPB HEL hlb hpc hq HE hz1 hv hll hlt hmm hml hp1 hp2 hp3 h60 HZ
      generalize L.getD k 0=z at *
      go_enter Tryz.func98,Tryz.ntmps98
      go_wp2_with fail
      refine H1.out.mono ?_;rintro _ w' ⟨rfl,rfl⟩
      go_wp2_with fail
      refine H2.out.mono ?_;rintro _ w' ⟨rfl,rfl⟩
      go_wp2_with fail
      refine H3.out.mono ?_;rintro _ w' ⟨rfl,rfl⟩
      go_wp2_with fail
      refine HLN.out.mono ?_;rintro _ w' ⟨rfl,rfl⟩
      go_wp2_with fail
      refine HP.out.mono ?_;rintro _ w' ⟨rfl,rfl⟩
      go_wp2
      go_ret2
      exact⟨rfl,rfl⟩
     ·have q60:(L.getD k 0==60)=false:=by simpa using h60
      by_cases h123:L.getD k 0=123
      ·have hz1:(L.drop k).getD 0 0=123:=HZ.out.trans h123
       have hpc:T.piece (L.drop k)=T.action (L.drop k):=T.piece_123 _ hz1
       rcases hact:T.act ((L.drop k).length+1) (L.drop k) 0 with _|n
       ·exfalso
        have:=HE.out
        rw[hpc]at this
        unfold T.action at this
        rw[hact]at this
        simp at this
       ·have hpc2:T.piece (L.drop k)=(0,n,0):=by rw[hpc];unfold T.action;rw[hact]
        have hv:zcm k (T.piece (L.drop k))=.tuple #[.int .i64 ((k+n:Nat):Int),.bool true]:=za2 (by rw[hpc2]) (by rw[hpc2])
        rw[hv]
        have HP:=aA (zdV _ c B L k n _ w HR.out hn hk h123 hact)
        have q123:(L.getD k 0==123)=true:=by rw[h123];rfl
        generalize k+n=P at *
        clear hb HPB HEL hlb hpc hpc2 hact HE hz1 hv hp1 hp2 hp3 h60 h123 HZ
        generalize L.getD k 0=z at *
        go_enter Tryz.func98,Tryz.ntmps98
        go_wp2_with fail
        refine H1.out.mono ?_;rintro _ w' ⟨rfl,rfl⟩
        go_wp2_with fail
        refine H2.out.mono ?_;rintro _ w' ⟨rfl,rfl⟩
        go_wp2_with fail
        refine H3.out.mono ?_;rintro _ w' ⟨rfl,rfl⟩
        go_wp2_with fail
        refine HP.out.mono ?_;rintro _ w' ⟨rfl,rfl⟩
        go_wp2
        go_ret2
        exact⟨rfl,rfl⟩
      ·have q123:(L.getD k 0==123)=false:=by simpa using h123
       have hv:=zei (k:=k) (HEL.out hb hp1 hp2 hp3 h60 h123 HE.out)
       rw[hv]
       clear hb HPB HEL hlb HE hv hp1 hp2 hp3 h60 h123 HZ
       generalize L.getD k 0=z at *
       go_enter Tryz.func98,Tryz.ntmps98
       go_wp2_with fail
       refine H1.out.mono ?_;rintro _ w' ⟨rfl,rfl⟩
       go_wp2_with fail
       refine H2.out.mono ?_;rintro _ w' ⟨rfl,rfl⟩
       go_wp2_with fail
       refine H3.out.mono ?_;rintro _ w' ⟨rfl,rfl⟩
       go_wp2
       go_ret2
       exact⟨rfl,rfl⟩
    ·rw[hp3]at H3
     have hn37:T.pre (L.drop k) [37,37]=false:=by
      rcases hh:T.pre (L.drop k) [37,37] with _|_
      ·rfl
      ·have e1:=(T.pre_two _ _ _ hlb (by intro x hx;simp at hx;omega) hh).2
       have e2:=(T.pre_two _ _ _ hlb (by intro x hx;simp at hx;omega) hp3).2
       omega
     have hz1:=(T.pre_two _ _ _ hlb (by intro x hx;simp at hx;omega) hp3).1
     have hpc:T.piece (L.drop k)=T.skip (L.drop k) 2 [37,125]:=by rw[T.piece_37 _ hz1];unfold T.percent;rw[if_neg (by rw[hn37];simp),if_pos hp3]
     have hq:=zb8 k L 2 [37,125] _ rfl (L.drop k) (by rw[List.drop_drop]) (by rw[←hpc];exact HE.out)
     have hv:=za2 (k:=k) hq.2 hq.1
     rw[←hpc]at hv
     rw[hv]
     have HP:=aA (zbY _ c B L [37,125] (k+2) w HR.out HL.out hc hn (by omega) (by decide) (by decide))
     rw[show K.str [37,125]=⟨#[37,125]⟩ from rfl,show((k+2:Nat):Int)=(k:Int)+2 by omega]at HP
     clear hb HPB HEL hlb hpc hq HE hz1 hv hp1 hp2 hp3 hn37 HZ
     generalize T.pastV L [37,125] (k+2)=P at *
     generalize L.getD k 0=z at *
     go_enter Tryz.func98,Tryz.ntmps98
     go_wp2_with fail
     refine H1.out.mono ?_;rintro _ w' ⟨rfl,rfl⟩
     go_wp2_with fail
     refine H2.out.mono ?_;rintro _ w' ⟨rfl,rfl⟩
     go_wp2_with fail
     refine H3.out.mono ?_;rintro _ w' ⟨rfl,rfl⟩
     go_wp2_with fail
     refine HP.out.mono ?_;rintro _ w' ⟨rfl,rfl⟩
     go_wp2
     go_ret2
     exact⟨rfl,rfl⟩
   ·rw[hp2]at H2
    have hz1:=(T.pre_two _ _ _ hlb (by intro x hx;simp at hx;omega) hp2).1
    have hpc:T.piece (L.drop k)=(0,(T.line (L.drop k)).length,0):=by rw[T.piece_47 _ hz1];unfold T.comment;rw[if_neg (by rw[hp1];simp),if_pos hp2]
    have hv:zcm k (T.piece (L.drop k))=.tuple #[.int .i64 ((k+(T.line (L.drop k)).length:Nat):Int),.bool true]:=za2 (by rw[hpc]) (by rw[hpc])
    rw[hv]
    have HP:=aA (zdu _ c B L k w HR.out HL.out hn (by omega))
    generalize k+(T.line (L.drop k)).length=P at *
    clear hb HPB HEL hlb hpc HE hz1 hv hp1 hp2 HZ
    generalize L.getD k 0=z at *
    go_enter Tryz.func98,Tryz.ntmps98
    go_wp2_with fail
    refine H1.out.mono ?_;rintro _ w' ⟨rfl,rfl⟩
    go_wp2_with fail
    refine H2.out.mono ?_;rintro _ w' ⟨rfl,rfl⟩
    go_wp2_with fail
    refine HP.out.mono ?_;rintro _ w' ⟨rfl,rfl⟩
    go_wp2
    go_ret2
    exact⟨rfl,rfl⟩
  ·rw[hp1]at H1
   have hz1:=(T.pre_two _ _ _ hlb (by intro x hx;simp at hx;omega) hp1).1
   have hpc:T.piece (L.drop k)=T.skip (L.drop k) 2 [42,47]:=by rw[T.piece_47 _ hz1];unfold T.comment;rw[if_pos hp1]
   have hq:=zb8 k L 2 [42,47] _ rfl (L.drop k) (by rw[List.drop_drop]) (by rw[←hpc];exact HE.out)
   have hv:=za2 (k:=k) hq.2 hq.1
   rw[←hpc]at hv
   rw[hv]
   have HP:=aA (zbY _ c B L [42,47] (k+2) w HR.out HL.out hc hn (by omega) (by decide) (by decide))
   rw[show K.str [42,47]=⟨#[42,47]⟩ from rfl,show((k+2:Nat):Int)=(k:Int)+2 by omega]at HP
   clear hb HPB HEL hlb hpc hq HE hz1 hv hp1 HZ
   generalize T.pastV L [42,47] (k+2)=P at *
   generalize L.getD k 0=z at *
   go_enter Tryz.func98,Tryz.ntmps98
   go_wp2_with fail
   refine H1.out.mono ?_;rintro _ w' ⟨rfl,rfl⟩
   go_wp2_with fail
   refine HP.out.mono ?_;rintro _ w' ⟨rfl,rfl⟩
   go_wp2
   go_ret2
   exact⟨rfl,rfl⟩
end Go.Proofs.YtabmfpgpkbndeaaGreat
