/- Part of the proofs over this program: Ref7O, Ref7T, Ref8O, BldD, BldE, BldF, BldH, BldJ, BldK, BldP, BldX, Work9, Term9, ShowL, Decl9. -/
import Derived.Test.YtabmfpgpkbndeaaGreatKAF
namespace Go.Proofs.YtabmfpgpkbndeaaGreat
set_option maxRecDepth 100000
set_option maxHeartbeats 40000000
open Go.RowKit
theorem zfT (z:Int) (w:World):Calls Tryz.prog 144 #[.int .u8 z] w fun e w'=>e=.returned (.int .i64 (if z=58 then 10 else if z=124 then 11 else if z=59 then 12 else 0))∧w=w':=by
 by_cases h1:z=58
 ·subst h1
  go_enter Tryz.func144,Tryz.ntmps144
  go_wp2
  go_ret
  exact⟨rfl,rfl⟩
 ·by_cases h2:z=124
  ·subst h2
   go_enter Tryz.func144,Tryz.ntmps144
   go_wp2
   go_ret
   exact⟨rfl,rfl⟩
  ·by_cases h3:z=59
   ·subst h3
    go_enter Tryz.func144,Tryz.ntmps144
    go_wp2
    go_ret
    exact⟨rfl,rfl⟩
   ·rw[if_neg h1,if_neg h2,if_neg h3]
    have q1:(z==58)=false:=by simpa using h1
    have q2:(z==124)=false:=by simpa using h2
    have q3:(z==59)=false:=by simpa using h3
    clear h1 h2 h3
    go_enter Tryz.func144,Tryz.ntmps144
    go_wp2
    go_ret
    exact⟨rfl,rfl⟩
theorem zeW (l m:List Int) (hl:K.Bytes l) (hm:K.Bytes m):((K.str l).toList==(K.str m).toList)=decide (l=m):=by
 rw[T.str_list,T.str_list,Bool.eq_iff_iff,beq_iff_eq,decide_eq_true_iff]
 exact⟨fun h=>K.bytes_inj hl hm h,fun h=>by rw[h]⟩
theorem zdt (l:List Int) (hl:K.Bytes l) (w:World):Calls Tryz.prog 143 #[.string (K.str l)] w fun e w'=>e=.returned (.int .i64 (T.wkind l))∧w=w':=by
 have b1:=zeW l [116,111,107,101,110] hl (by intro x hx;simp at hx;omega)
 have b2:=zeW l [108,101,102,116] hl (by intro x hx;simp at hx;omega)
 have b3:=zeW l [114,105,103,104,116] hl (by intro x hx;simp at hx;omega)
 have b4:=zeW l [110,111,110,97,115,115,111,99] hl (by intro x hx;simp at hx;omega)
 have b5:=zeW l [115,116,97,114,116] hl (by intro x hx;simp at hx;omega)
 have b6:=zeW l [112,114,101,99] hl (by intro x hx;simp at hx;omega)
 rw[show(K.str [116,111,107,101,110]).toList=[116,111,107,101,110] by rw[ByteArray.toList_eq];rfl]at b1
 rw[show(K.str [108,101,102,116]).toList=[108,101,102,116] by rw[ByteArray.toList_eq];rfl]at b2
 rw[show(K.str [114,105,103,104,116]).toList=[114,105,103,104,116] by rw[ByteArray.toList_eq];rfl]at b3
 rw[show(K.str [110,111,110,97,115,115,111,99]).toList=[110,111,110,97,115,115,111,99] by rw[ByteArray.toList_eq];rfl]at b4
 rw[show(K.str [115,116,97,114,116]).toList=[115,116,97,114,116] by rw[ByteArray.toList_eq];rfl]at b5
 rw[show(K.str [112,114,101,99]).toList=[112,114,101,99] by rw[ByteArray.toList_eq];rfl]at b6
 unfold T.wkind
 clear hl
 generalize hs:K.str l=st at *
 clear hs
 go_enter Tryz.func143,Tryz.ntmps143
 go_wp2
 all_goals go_ret
 all_goals exact⟨rfl,rfl⟩
namespace T
theorem skip_kind (l:List Int) (f:Nat) (s:List Int):(skip l f s).1=0:=by unfold skip;split <;> rfl
theorem zjk {z:Int} (h:head z=true):(97≤z∧z≤122)∨(65≤z∧z≤90)∨z=95:=by
 unfold head small at h
 simp only[Bool.or_eq_true,Bool.and_eq_true,decide_eq_true_eq,beq_iff_eq]at h
 omega
theorem piece_name (l:List Int) (h:head (l.getD 0 0)=true):piece l=name l:=by
 have hz:=zjk h
 unfold piece
 simp only
 rw[if_neg (by omega),if_neg (by omega),if_neg (by omega),if_neg (by omega),if_neg (by omega),if_neg (by omega),if_neg (by omega),if_neg (by omega),if_neg (by omega)]
theorem piece_39 (l:List Int) (h:l.getD 0 0=39):piece l=literal l:=by
 unfold piece
 simp only[h]
 rfl
theorem piece_sign (l:List Int) (h1:head (l.getD 0 0)=false) (h2:¬l.getD 0 0=39) (h3:¬l.getD 0 0=37) (he:(piece l).2.2=0) (hk:(piece l).1≠0):piece l=((if l.getD 0 0=58 then 10 else if l.getD 0 0=124 then 11 else if l.getD 0 0=59 then 12 else 0),1,0)∧(if l.getD 0 0=58 then(10:Int) else if l.getD 0 0=124 then 11 else if l.getD 0 0=59 then 12 else 0)≠0:=by
 have hns:nsize l=0:=by
  cases l with
  | nil=>rfl
  | cons z r=>rw[nsize_cons,if_neg];simpa using h1
 revert he hk
 unfold piece
 simp only
 split
 ·intro _ h;exact absurd rfl h
 split
 ·intro _ h
  unfold comment at h
  split at h
  ·exact absurd (skip_kind _ _ _) h
  split at h <;> exact absurd rfl h
 split
 ·intro _ h;exact absurd (skip_kind _ _ _) h
 split
 ·intro _ h
  unfold action at h
  split at h <;> exact absurd rfl h
 split
 ·exact fun _ _=>⟨rfl,by decide⟩
 split
 ·exact fun _ _=>⟨rfl,by decide⟩
 split
 ·exact fun _ _=>⟨rfl,by decide⟩
 ·intro h
  unfold name at h
  rw[if_pos hns]at h
  simp at h
end T
def zdN (L:List Int) (k:Nat) (x:T.P3):Value:=.tuple #[.agg #[.int .i64 x.1,.string (K.str (bB x.1 ((L.drop k).take x.2.1))),.complex .f64 (Fl.fl (Pl.pos (L.take k)).1) (Fl.fl (Pl.pos (L.take k)).2)],.int .i64 ((k+x.2.1:Nat):Int),.int .i64 0]
theorem zhc (A:Option Addr) (c:Nat) (L:List Int) (k:Nat) (w:World) (hr:RdB w w.heap.size A L) (hl:K.Bytes L) (hc:L.length≤c) (hn:L.length≤2000) (hk:k<L.length) (he:(T.piece (L.drop k)).2.2=0) (hx:(T.piece (L.drop k)).1≠0)
  (h1:T.head (L.getD k 0)=false) (h2:¬L.getD k 0=39) (h3:¬L.getD k 0=37) :
  Calls Tryz.prog 100 #[.slice A L.length c,.int .i64 k] w fun e w'=>e=.returned (zdN L k (T.piece (L.drop k)))∧Below w.heap.size w w':=by
 have hz:(L.drop k).getD 0 0=L.getD k 0:=by rw[Go.Proofs.YtabmfpgpkbndeaaGreat.L.cons_drop L k hk];rfl
 obtain⟨g,o,rfl,hgl,hcl⟩:=hr (by omega)
 have hcell:=hcl k hk
 have hps:=T.piece_sign (L.drop k) (by rw[hz];exact h1) (by rw[hz];exact h2) (by rw[hz];exact h3) he hx
 rw[hz]at hps
 obtain⟨hpc,hkn⟩:=hps
 have hp37:T.pre (L.drop k) [37,37]=false:=by
  rcases hh:T.pre (L.drop k) [37,37] with _|_
  ·rfl
  ·exact absurd ((T.pre_two _ _ _ (hl.drop k) (by intro x hx;simp at hx;omega) hh).1) (by rw[hz];exact h3)
 have HAT:=aA (fun(w1:World) (h:Below w.heap.size w w1)=>zcD (some ⟨g,o,none⟩) c w.heap.size L k w1 (hr.below h (Nat.le_refl _)) hn (by omega))
 have H1:=aA (fun(w1:World) (h:Below w.heap.size w w1)=>zaT (some ⟨g,o,none⟩) c w.heap.size L [37,37] k w1 (hr.below h (Nat.le_refl _)) hl hc (by omega) (by omega) (by decide))
 rw[hp37,show K.str [37,37]=⟨#[37,37]⟩ from rfl]at H1
 have HF:=aA (zaA (L.getD k 0))
 rw[h1]at HF
 have HM:=aA (zfT (L.getD k 0))
 have HB0:=aA (fun o=>((Below.refl w.heap.size w).alloc (Nat.le_refl _) o))
 have SC:=fun a w m X Y=>show(store a (.complex .f64 X Y) m).run Tryz.prog w=stored Tryz.prog w a (.complex .f64 X Y) m from run_store _ w a _ m rfl
 have q39:(L.getD k 0==39)=false:=by simpa using h2
 have q37:(L.getD k 0==37)=false:=by simpa using h3
 rw[hpc]
 unfold zdN
 have ht:bB (if L.getD k 0=58 then 10 else if L.getD k 0=124 then 11 else if L.getD k 0=59 then 12 else 0) ((L.drop k).take 1)=[]:=by
  unfold bB
  rw[if_neg]
  split
  ·omega
  split
  ·omega
  split <;> omega
 simp only
 rw[ht,show K.str []=⟨#[]⟩ from rfl]
 have qk:((if L.getD k 0=58 then(10:Int) else if L.getD k 0=124 then 11 else if L.getD k 0=59 then 12 else 0)==0)=false:=by simpa using hkn
 clear ht hpc hkn hp37 hcl hr hz h1 h2 h3 he hx
 generalize (if L.getD k 0=58 then(10:Int) else if L.getD k 0=124 then 11 else if L.getD k 0=59 then 12 else 0)=xk at *
 generalize L.getD k 0=z at *
 generalize Fl.fl (Pl.pos (L.take k)).1=X at *
 generalize Fl.fl (Pl.pos (L.take k)).2=Y at *
 go_enter Tryz.func100,Tryz.ntmps100
 go_wp2_with fail
 refine(HAT.out _ (HB0.out _)).mono ?_;rintro _ w' ⟨rfl,rfl⟩
 go_wp2_with fail
 refine(HF.out _).mono ?_;rintro _ w' ⟨rfl,rfl⟩
 go_wp2_with fail
 refine(H1.out _ ((HB0.out _).alloc (by simp) _)).mono ?_;rintro _ w' ⟨rfl,rfl⟩
 go_wp2_with fail
 refine(HM.out _).mono ?_;rintro _ w' ⟨rfl,rfl⟩
 go_wp2
 refine bodyPost_ret (v:=.tuple #[.agg #[.int .i64 xk,.string ⟨#[]⟩,.complex .f64 X Y],.int .i64 ((k:Int)+1),.int .i64 0]) (by simp[results,Tryz.results100,go_sem]) rfl ⟨by rw[Int.natCast_add];rfl,?_⟩
 exact(HB0.out _).alloc (by simp) _
theorem zhe (A:Option Addr) (c:Nat) (L:List Int) (k:Nat) (w:World) (hr:RdB w w.heap.size A L) (hl:K.Bytes L) (hc:L.length≤c) (hn:L.length≤2000) (hk:k<L.length) (hp:T.pre (L.drop k) [37,37]=true) :
  Calls Tryz.prog 100 #[.slice A L.length c,.int .i64 k] w fun e w'=>e=.returned (zdN L k (T.piece (L.drop k)))∧Below w.heap.size w w':=by
 have hz:(L.drop k).getD 0 0=L.getD k 0:=by rw[Go.Proofs.YtabmfpgpkbndeaaGreat.L.cons_drop L k hk];rfl
 have h37:=(T.pre_two _ _ _ (hl.drop k) (by intro x hx;simp at hx;omega) hp).1
 have hpc:T.piece (L.drop k)=(9,2,0):=by rw[T.piece_37 _ h37];unfold T.percent;rw[if_pos hp]
 rw[hz]at h37
 obtain⟨g,o,rfl,hgl,hcl⟩:=hr (by omega)
 have hcell:=hcl k hk
 rw[h37]at hcell
 have HAT:=aA (fun(w1:World) (h:Below w.heap.size w w1)=>zcD (some ⟨g,o,none⟩) c w.heap.size L k w1 (hr.below h (Nat.le_refl _)) hn (by omega))
 have H1:=aA (fun(w1:World) (h:Below w.heap.size w w1)=>zaT (some ⟨g,o,none⟩) c w.heap.size L [37,37] k w1 (hr.below h (Nat.le_refl _)) hl hc (by omega) (by omega) (by decide))
 rw[hp,show K.str [37,37]=⟨#[37,37]⟩ from rfl]at H1
 have HF:=aA (zaA 37)
 rw[show T.head 37=false from rfl]at HF
 have HB0:=aA (fun o=>((Below.refl w.heap.size w).alloc (Nat.le_refl _) o))
 have SC:=fun a w m X Y=>show(store a (.complex .f64 X Y) m).run Tryz.prog w=stored Tryz.prog w a (.complex .f64 X Y) m from run_store _ w a _ m rfl
 rw[hpc]
 unfold zdN
 simp only
 rw[show bB 9 ((L.drop k).take 2)=[] from rfl,show K.str []=⟨#[]⟩ from rfl]
 clear hpc hp hcl hr hz h37
 generalize Fl.fl (Pl.pos (L.take k)).1=X at *
 generalize Fl.fl (Pl.pos (L.take k)).2=Y at *
 go_enter Tryz.func100,Tryz.ntmps100
 go_wp2_with fail
 refine(HAT.out _ (HB0.out _)).mono ?_;rintro _ w' ⟨rfl,rfl⟩
 go_wp2_with fail
 refine(HF.out _).mono ?_;rintro _ w' ⟨rfl,rfl⟩
 go_wp2_with fail
 refine(H1.out _ ((HB0.out _).alloc (by simp) _)).mono ?_;rintro _ w' ⟨rfl,rfl⟩
 go_wp2
 refine bodyPost_ret (v:=.tuple #[.agg #[.int .i64 9,.string ⟨#[]⟩,.complex .f64 X Y],.int .i64 ((k:Int)+2),.int .i64 0]) (by simp[results,Tryz.results100,go_sem]) rfl ⟨by rw[Int.natCast_add];rfl,?_⟩
 exact(HB0.out _).alloc (by simp) _
theorem zhb (A:Option Addr) (c:Nat) (L:List Int) (k:Nat) (w:World) (hr:RdB w w.heap.size A L) (hl:K.Bytes L) (hc:L.length≤c) (hn:L.length≤2000) (hk:k<L.length) (he:(T.piece (L.drop k)).2.2=0) (hx:(T.piece (L.drop k)).1≠0) (h37:L.getD k 0=37) (hp:T.pre (L.drop k) [37,37]=false) :
  Calls Tryz.prog 100 #[.slice A L.length c,.int .i64 k] w fun e w'=>e=.returned (zdN L k (T.piece (L.drop k)))∧Below w.heap.size w w':=by
 have hz:(L.drop k).getD 0 0=L.getD k 0:=by rw[Go.Proofs.YtabmfpgpkbndeaaGreat.L.cons_drop L k hk];rfl
 have hps:T.psize (L.drop k)=1+T.run T.small (L.drop (k+1)):=by unfold T.psize;rw[List.drop_drop]
 have hword:((L.drop k).take (T.psize (L.drop k))).drop 1=(L.drop (k+1)).take (T.run T.small (L.drop (k+1))):=by
  rw[hps,List.drop_take,List.drop_drop]
  congr 1
  omega
 have hpc:T.piece (L.drop k)=(T.wkind ((L.drop (k+1)).take (T.run T.small (L.drop (k+1)))),1+T.run T.small (L.drop (k+1)),0)∧T.wkind ((L.drop (k+1)).take (T.run T.small (L.drop (k+1))))≠0:=by
  rw[T.piece_37 _ (hz.trans h37)]at he hx ⊢
  unfold T.percent at he hx ⊢
  rw[if_neg (by rw[hp];simp)]at he hx ⊢
  by_cases h3:T.pre (L.drop k) [37,123]=true
  ·rw[if_pos h3]at hx;exact absurd (T.skip_kind _ _ _) hx
  ·rw[if_neg h3]at he hx ⊢
   rw[hword,hps]at he ⊢
   by_cases h4:T.wkind ((L.drop (k+1)).take (T.run T.small (L.drop (k+1))))=0
   ·exfalso;simp[h4]at he
   ·exact⟨by simp[h4],h4⟩
 obtain⟨hpc,hkn⟩:=hpc
 obtain⟨g,o,rfl,hgl,hcl⟩:=hr (by omega)
 have hcell:=hcl k hk
 rw[h37]at hcell
 have HC:=aA hcl
 have hrl:=T.run_le T.small (L.drop (k+1))
 rw[List.length_drop]at hrl
 have HAT:=aA (fun(w1:World) (h:Below w.heap.size w w1)=>zcD (some ⟨g,o,none⟩) c w.heap.size L k w1 (hr.below h (Nat.le_refl _)) hn (by omega))
 have H1:=aA (fun(w1:World) (h:Below w.heap.size w w1)=>zaT (some ⟨g,o,none⟩) c w.heap.size L [37,37] k w1 (hr.below h (Nat.le_refl _)) hl hc (by omega) (by omega) (by decide))
 rw[hp,show K.str [37,37]=⟨#[37,37]⟩ from rfl]at H1
 have HF:=aA (zaA 37)
 rw[show T.head 37=false from rfl]at HF
 have HCV:=aA (fun(o1 o2:Obj)=>zbi ((((hr.alloc (Nat.le_refl _) o1).alloc (by simp) o2).dropA hc (k+1)).take (T.run T.small (L.drop (k+1)))) ((hl.drop (k+1)).take _) (c-(k+1)))
 have HK:=aA (fun w=>zdt ((L.drop (k+1)).take (T.run T.small (L.drop (k+1)))) ((hl.drop _).take _) w)
 have HS:=aA (fun w=>za5 w (some ⟨g,o,none⟩) c L.length (k+1) (k+1+T.run T.small (L.drop (k+1))) (by omega) (by omega))
 rw[show k+1+T.run T.small (L.drop (k+1))-(k+1)=T.run T.small (L.drop (k+1)) by omega]at HS
 have hlt2:((L.drop (k+1)).take (T.run T.small (L.drop (k+1)))).length=T.run T.small (L.drop (k+1)):=by rw[List.length_take,List.length_drop];omega
 rw[hlt2]at HCV
 have HB0:=aA (fun o=>((Below.refl w.heap.size w).alloc (Nat.le_refl _) o))
 have SC:=fun a w m X Y=>show(store a (.complex .f64 X Y) m).run Tryz.prog w=stored Tryz.prog w a (.complex .f64 X Y) m from run_store _ w a _ m rfl
 rw[hpc]
 unfold zdN
 have hwb:=T.wkind_bd ((L.drop (k+1)).take (T.run T.small (L.drop (k+1))))
 have ht:bB (T.wkind ((L.drop (k+1)).take (T.run T.small (L.drop (k+1))))) ((L.drop k).take (1+T.run T.small (L.drop (k+1))))=[]:=by
  have:=hwb.2.2 hkn
  unfold bB;rw[if_neg (by omega)]
 simp only
 rw[ht,show K.str []=⟨#[]⟩ from rfl]
 have qk:(T.wkind ((L.drop (k+1)).take (T.run T.small (L.drop (k+1))))==0)=false:=by simpa using hkn
 have HRN:=aA (T.run_next T.small L)
 have HRE:=aA (T.run_end T.small L)
 clear hpc hp hcl hr hz h37 ht hkn hwb hword hps hlt2 he hx hl
 generalize T.wkind ((L.drop (k+1)).take (T.run T.small (L.drop (k+1))))=xk at *
 generalize K.str ((L.drop (k+1)).take (T.run T.small (L.drop (k+1))))=st at *
 generalize hrun:T.run T.small (L.drop (k+1))=rn at *
 have HRUN:=aA hrun
 clear hrun
 generalize Fl.fl (Pl.pos (L.take k)).1=X at *
 generalize Fl.fl (Pl.pos (L.take k)).2=Y at *
 go_enter Tryz.func100,Tryz.ntmps100
 go_wp2_with fail
 refine(HAT.out _ (HB0.out _)).mono ?_;rintro _ w' ⟨rfl,rfl⟩
 go_wp2_with fail
 refine(HF.out _).mono ?_;rintro _ w' ⟨rfl,rfl⟩
 go_wp2_with fail
 refine(H1.out _ ((HB0.out _).alloc (by simp) _)).mono ?_;rintro _ w' ⟨rfl,rfl⟩
 go_wp2_with fail
 go_loop [9] (fun vi=>∃(j:Nat),j≤L.length∧k+1≤j∧vi=.int .i64 j∧j+T.run T.small (L.drop j)=k+1+rn) (fun vi=>L.length-(intOf vi).toNat)
 case atStart=>exact⟨k+1,by omega,by omega,by go_num,by rw[HRUN.out]⟩
 case round =>
  obtain⟨j,hj,hkj,rfl,hrel⟩:=hrel
  have HV:=aA hrel
  clear hrel
  by_cases hlt:j<L.length
  ·have hcj:=HC.out j hlt
   have hrn:=HRN.out j hlt
   by_cases hs:97≤L.getD j 0∧L.getD j 0≤122
   ·have hsm:T.small (L.getD j 0)=true:=by unfold T.small;simp;exact hs
    rw[hsm,if_pos rfl]at hrn
    have HN:=aA hrn
    obtain⟨hs1,hs2⟩:=hs
    clear hsm hrn hcell
    generalize L.getD j 0=z at *
    go_wp2
    go_round
    case rel=>exact⟨j+1,by omega,by omega,by go_num,by have:=HV.out;have:=HN.out;omega⟩
    case measure=>simp[intOf];omega
   ·have hsm:T.small (L.getD j 0)=false:=by
     rcases hq:T.small (L.getD j 0) with _|_
     ·rfl
     ·exfalso;apply hs;unfold T.small at hq;simp at hq;exact hq
    rw[hsm]at hrn
    have hje:k+1+rn=j:=by have:=HV.out;rw[hrn]at this;simp at this;omega
    have S1:∀w,(Instr.sliceAt 58 (.slice (some ⟨g,o,none⟩) L.length c) (some (.int .i64 ((k:Int)+1))) (some (.int .i64 j)) none).run Tryz.prog w=.ok (.slice (dropA (some ⟨g,o,none⟩) c (k+1)) rn (c-(k+1))) w:=fun w=>by
     have h:=HS.out w
     rw[hje,show((k+1:Nat):Int)=(k:Int)+1 by omega]at h
     exact h
    have C1:=HCV.out bL (.cells #[.int .i64 0,.string ⟨#[]⟩,.complex .f64 X Y] 143)
    unfold bL at C1
    have HJ:=aA hje
    clear hsm hrn hje hcell HS HCV
    generalize dropA (some ⟨g,o,none⟩) c (k+1)=D at *
    generalize c-(k+1)=c2 at *
    generalize L.getD j 0=z at *
    by_cases h97:97≤z
    ·have h122:¬z≤122:=fun h=>hs ⟨h97,h⟩
     clear hs
     go_wp2_with fail
     refine(HK.out _).mono ?_;rintro _ w' ⟨rfl,rfl⟩
     go_wp2
     refine bodyPost_ret (v:=.tuple #[.agg #[.int .i64 xk,.string ⟨#[]⟩,.complex .f64 X Y],.int .i64 j,.int .i64 0]) (by simp[results,Tryz.results100,go_sem]) rfl ⟨by rw[←HJ.out,show k+(1+rn)=k+1+rn by omega],?_⟩
     exact(HB0.out _).alloc (by simp) _
    ·clear hs
     go_wp2_with fail
     refine(HK.out _).mono ?_;rintro _ w' ⟨rfl,rfl⟩
     go_wp2
     refine bodyPost_ret (v:=.tuple #[.agg #[.int .i64 xk,.string ⟨#[]⟩,.complex .f64 X Y],.int .i64 j,.int .i64 0]) (by simp[results,Tryz.results100,go_sem]) rfl ⟨by rw[←HJ.out,show k+(1+rn)=k+1+rn by omega],?_⟩
     exact(HB0.out _).alloc (by simp) _
  ·have hre:=HRE.out j (by omega)
   have hje:k+1+rn=j:=by have:=HV.out;rw[hre]at this;omega
   have S1:∀w,(Instr.sliceAt 58 (.slice (some ⟨g,o,none⟩) L.length c) (some (.int .i64 ((k:Int)+1))) (some (.int .i64 j)) none).run Tryz.prog w=.ok (.slice (dropA (some ⟨g,o,none⟩) c (k+1)) rn (c-(k+1))) w:=fun w=>by
    have h:=HS.out w
    rw[hje,show((k+1:Nat):Int)=(k:Int)+1 by omega]at h
    exact h
   have C1:=HCV.out bL (.cells #[.int .i64 0,.string ⟨#[]⟩,.complex .f64 X Y] 143)
   unfold bL at C1
   have HJ:=aA hje
   clear hre hje hcell HS HCV
   generalize dropA (some ⟨g,o,none⟩) c (k+1)=D at *
   generalize c-(k+1)=c2 at *
   go_wp2_with fail
   refine(HK.out _).mono ?_;rintro _ w' ⟨rfl,rfl⟩
   go_wp2
   refine bodyPost_ret (v:=.tuple #[.agg #[.int .i64 xk,.string ⟨#[]⟩,.complex .f64 X Y],.int .i64 j,.int .i64 0]) (by simp[results,Tryz.results100,go_sem]) rfl ⟨by rw[←HJ.out,show k+(1+rn)=k+1+rn by omega],?_⟩
   exact(HB0.out _).alloc (by simp) _
theorem zhd (A:Option Addr) (c:Nat) (L:List Int) (k:Nat) (w:World) (hr:RdB w w.heap.size A L) (hl:K.Bytes L) (hc:L.length≤c) (hn:L.length≤2000) (hk:k<L.length) (he:(T.piece (L.drop k)).2.2=0) (hh:T.head (L.getD k 0)=true) :
  Calls Tryz.prog 100 #[.slice A L.length c,.int .i64 k] w fun e w'=>e=.returned (zdN L k (T.piece (L.drop k)))∧Below w.heap.size w w':=by
 have hz:(L.drop k).getD 0 0=L.getD k 0:=by rw[Go.Proofs.YtabmfpgpkbndeaaGreat.L.cons_drop L k hk];rfl
 have hns:T.nsize (L.drop k)=1+T.run T.inName (L.drop (k+1)):=by
  rw[Go.Proofs.YtabmfpgpkbndeaaGreat.L.cons_drop L k hk,T.nsize_cons,if_pos hh];omega
 have hpc:T.piece (L.drop k)=(1,1+T.run T.inName (L.drop (k+1)),0)∧1+T.run T.inName (L.drop (k+1))≤20:=by
  rw[T.piece_name _ (by rw[hz];exact hh)]at he ⊢
  unfold T.name at he ⊢
  rw[hns]at he ⊢
  rw[if_neg (by omega)]at he ⊢
  by_cases h4:20<1+T.run T.inName (L.drop (k+1))
  ·exfalso;simp[h4]at he
  ·exact⟨by simp[h4],by omega⟩
 obtain⟨hpc,h20⟩:=hpc
 obtain⟨g,o,rfl,hgl,hcl⟩:=hr (by omega)
 have hcell:=hcl k hk
 have HC:=aA hcl
 have hrl:=T.run_le T.inName (L.drop (k+1))
 rw[List.length_drop]at hrl
 have HAT:=aA (fun(w1:World) (h:Below w.heap.size w w1)=>zcD (some ⟨g,o,none⟩) c w.heap.size L k w1 (hr.below h (Nat.le_refl _)) hn (by omega))
 have HF:=aA (zaA (L.getD k 0))
 rw[hh]at HF
 have HLT:=aA (fun j=>zdD (L.getD j 0))
 have HCV:=aA (fun(w1:World) (h:Below w.heap.size w w1)=>zbi (((hr.below h (Nat.le_refl _)).dropA hc k).take (1+T.run T.inName (L.drop (k+1)))) ((hl.drop k).take _) (c-k))
 have HS:=aA (fun w=>za5 w (some ⟨g,o,none⟩) c L.length k (k+(1+T.run T.inName (L.drop (k+1)))) (by omega) (by omega))
 rw[show k+(1+T.run T.inName (L.drop (k+1)))-k=1+T.run T.inName (L.drop (k+1)) by omega]at HS
 have hlt2:((L.drop k).take (1+T.run T.inName (L.drop (k+1)))).length=1+T.run T.inName (L.drop (k+1)):=by rw[List.length_take,List.length_drop];omega
 rw[hlt2]at HCV
 have HB0:=aA (fun o=>((Below.refl w.heap.size w).alloc (Nat.le_refl _) o))
 have SC:=fun a w m X Y=>show(store a (.complex .f64 X Y) m).run Tryz.prog w=stored Tryz.prog w a (.complex .f64 X Y) m from run_store _ w a _ m rfl
 rw[hpc]
 unfold zdN
 have ht:bB 1 ((L.drop k).take (1+T.run T.inName (L.drop (k+1))))=(L.drop k).take (1+T.run T.inName (L.drop (k+1))):=by unfold bB;rw[if_pos (.inl rfl)]
 simp only
 rw[ht]
 have HRN:=aA (T.run_next T.inName L)
 have HRE:=aA (T.run_end T.inName L)
 clear hpc hcl hr hz ht hns hlt2 he hl hh
 generalize K.str ((L.drop k).take (1+T.run T.inName (L.drop (k+1))))=st at *
 generalize hrun:T.run T.inName (L.drop (k+1))=rn at *
 have HRUN:=aA hrun
 clear hrun
 generalize Fl.fl (Pl.pos (L.take k)).1=X at *
 generalize Fl.fl (Pl.pos (L.take k)).2=Y at *
 generalize hzz:L.getD k 0=z at *
 clear hzz
 go_enter Tryz.func100,Tryz.ntmps100
 go_wp2_with fail
 refine(HAT.out _ (HB0.out _)).mono ?_;rintro _ w' ⟨rfl,rfl⟩
 go_wp2_with fail
 refine(HF.out _).mono ?_;rintro _ w' ⟨rfl,rfl⟩
 go_wp2_with fail
 go_loop [9] (fun vi=>∃(j:Nat),j≤L.length∧k+1≤j∧vi=.int .i64 j∧j+T.run T.inName (L.drop j)=k+1+rn) (fun vi=>L.length-(intOf vi).toNat)
 case atStart=>exact⟨k+1,by omega,by omega,by go_num,by rw[HRUN.out]⟩
 case round =>
  obtain⟨j,hj,hkj,rfl,hrel⟩:=hrel
  have HV:=aA hrel
  clear hrel hcell
  by_cases hlt:j<L.length
  ·have hcj:=HC.out j hlt
   have hrn:=HRN.out j hlt
   have HLj:=aA (HLT.out j)
   rcases hsm:T.inName (L.getD j 0) with _|_
   ·rw[hsm]at hrn HLj
    have hje:k+(1+rn)=j:=by have:=HV.out;rw[hrn]at this;simp at this;omega
    have HJ:=aA hje
    clear hsm hrn
    generalize L.getD j 0=z2 at *
    go_wp2_with fail
    refine(HLj.out _).mono ?_;rintro _ w' ⟨rfl,rfl⟩
    have hgt:¬(j:Int)-(k:Int) > 20:=by have:=HJ.out;omega
    go_upto_region 10 with fail
    have hb5:Below w.heap.size w ((((w.alloc bL).alloc (.cells #[.int .i64 0,.string ⟨#[]⟩,.complex .f64 X Y] 143))).drew):=aB ((HB0.out bL).alloc (by simp) _) 1
    unfold bL at hb5
    have S1:∀w,(Instr.sliceAt 58 (.slice (some ⟨g,o,none⟩) L.length c) (some (.int .i64 k)) (some (.int .i64 j)) none).run Tryz.prog w=.ok (.slice (dropA (some ⟨g,o,none⟩) c k) (1+rn) (c-k)) w:=fun w=>by
     have h:=HS.out w
     rw[HJ.out]at h
     exact h
    have CC:=fun y:Calm.On w.heap.size w=>HCV.out y.1 y.2
    refine Calm.region_tree (fun x=>∃y:Calm.On w.heap.size w,x=y.1) (.one [0,1,2,3,4,5] 6 (.one [7] 8 (.fin []))) (by kernel_rfl) (by kernel_rfl) (fun _ _ d _ _ h=>by cases d <;> exact h) ⟨⟨_,hb5⟩,rfl⟩ ?_
    simp only[Calm.wpT,Calm.wpSt,Calm.pickOps,List.getElem?_toArray,List.getElem?_cons_zero,List.getElem?_cons_succ]
    repeat (go_big_quiet_step (fail))
    refine wpQuiet_nil ?_
    clear CC HCV HS S1 hb5
    have HBE:=aA (fun o1 o2=>aB ((HB0.out o1).alloc (by simp) o2) 1)
    intro KK hKK
    try rw[if_pos (by rfl)]
    go_wp2_with fail
    refine hKK _ _ ⟨⟨_,HBE.out _ _⟩,rfl⟩ (fun x=>∃y:Calm.On w.heap.size w,x=y.1) (fun _ h=>h) ⟨⟨_,HBE.out _ _⟩,rfl⟩ ?_
    repeat (go_big_quiet_step (fail))
    refine wpQuiet_nil ?_
    intro KK hKK
    try rw[if_pos (by rfl)]
    go_wp2_with fail
    refine hKK _ _ ⟨⟨_,HBE.out _ _⟩,rfl⟩ (fun x=>∃y:Calm.On w.heap.size w,x=y.1) (fun _ h=>h) ⟨⟨_,HBE.out _ _⟩,rfl⟩ ?_
    refine wpQuiet_nil ?_
    go_wp2
    exact bodyPost_ret (v:=.tuple #[.agg #[.int .i64 1,.string st,.complex .f64 X Y],.int .i64 j,.int .i64 0]) (by simp[results,Tryz.results100,go_sem]) rfl ⟨by rw[HJ.out],HBE.out _ _⟩
   ·rw[hsm,if_pos rfl]at hrn
    rw[hsm]at HLj
    have HN:=aA hrn
    clear hsm hrn
    generalize L.getD j 0=z2 at *
    go_wp2_with fail
    refine(HLj.out _).mono ?_;rintro _ w' ⟨rfl,rfl⟩
    go_wp2
    go_round
    case rel=>exact⟨j+1,by omega,by omega,by go_num,by have:=HV.out;have:=HN.out;omega⟩
    case measure=>simp[intOf];omega
  ·have hre:=HRE.out j (by omega)
   have hje:k+(1+rn)=j:=by have:=HV.out;rw[hre]at this;omega
   have HJ:=aA hje
   have hgt:¬(j:Int)-(k:Int) > 20:=by omega
   clear hre hje
   go_upto_region 10 with fail
   have hb5:Below w.heap.size w ((((w.alloc bL).alloc (.cells #[.int .i64 0,.string ⟨#[]⟩,.complex .f64 X Y] 143))).drew):=aB ((HB0.out bL).alloc (by simp) _) 1
   unfold bL at hb5
   have S1:∀w,(Instr.sliceAt 58 (.slice (some ⟨g,o,none⟩) L.length c) (some (.int .i64 k)) (some (.int .i64 j)) none).run Tryz.prog w=.ok (.slice (dropA (some ⟨g,o,none⟩) c k) (1+rn) (c-k)) w:=fun w=>by
    have h:=HS.out w
    rw[HJ.out]at h
    exact h
   have CC:=fun y:Calm.On w.heap.size w=>HCV.out y.1 y.2
   refine Calm.region_tree (fun x=>∃y:Calm.On w.heap.size w,x=y.1) (.one [0,1,2,3,4,5] 6 (.one [7] 8 (.fin []))) (by kernel_rfl) (by kernel_rfl) (fun _ _ d _ _ h=>by cases d <;> exact h) ⟨⟨_,hb5⟩,rfl⟩ ?_
   simp only[Calm.wpT,Calm.wpSt,Calm.pickOps,List.getElem?_toArray,List.getElem?_cons_zero,List.getElem?_cons_succ]
   repeat (go_big_quiet_step (fail))
   refine wpQuiet_nil ?_
   clear CC HCV HS S1 hb5
   have HBE:=aA (fun o1 o2=>aB ((HB0.out o1).alloc (by simp) o2) 1)
   intro KK hKK
   try rw[if_pos (by rfl)]
   go_wp2_with fail
   refine hKK _ _ ⟨⟨_,HBE.out _ _⟩,rfl⟩ (fun x=>∃y:Calm.On w.heap.size w,x=y.1) (fun _ h=>h) ⟨⟨_,HBE.out _ _⟩,rfl⟩ ?_
   repeat (go_big_quiet_step (fail))
   refine wpQuiet_nil ?_
   intro KK hKK
   try rw[if_pos (by rfl)]
   go_wp2_with fail
   refine hKK _ _ ⟨⟨_,HBE.out _ _⟩,rfl⟩ (fun x=>∃y:Calm.On w.heap.size w,x=y.1) (fun _ h=>h) ⟨⟨_,HBE.out _ _⟩,rfl⟩ ?_
   refine wpQuiet_nil ?_
   go_wp2
   exact bodyPost_ret (v:=.tuple #[.agg #[.int .i64 1,.string st,.complex .f64 X Y],.int .i64 j,.int .i64 0]) (by simp[results,Tryz.results100,go_sem]) rfl ⟨by rw[HJ.out],HBE.out _ _⟩
theorem zim (A:Option Addr) (c:Nat) (L:List Int) (k:Nat) (w:World) (hr:RdB w w.heap.size A L) (hl:K.Bytes L) (hc:L.length≤c) (hn:L.length≤2000) (hk:k<L.length) (he:(T.piece (L.drop k)).2.2=0) (h39:L.getD k 0=39) :
  Calls Tryz.prog 100 #[.slice A L.length c,.int .i64 k] w fun e w'=>e=.returned (zdN L k (T.piece (L.drop k)))∧Below w.heap.size w w':=by
 have hz:(L.drop k).getD 0 0=L.getD k 0:=by rw[Go.Proofs.YtabmfpgpkbndeaaGreat.L.cons_drop L k hk];rfl
 have hpc:(T.isLit ((L.drop k).take 3)=true∧T.piece (L.drop k)=(2,3,0))∨(T.isLit ((L.drop k).take 3)=false∧T.isLit ((L.drop k).take 4)=true∧T.piece (L.drop k)=(2,4,0)):=by
  rw[T.piece_39 _ (hz.trans h39)]at he ⊢
  unfold T.literal at he ⊢
  rcases h3:T.isLit ((L.drop k).take 3) with _|_
  ·rcases h4:T.isLit ((L.drop k).take 4) with _|_
   ·exfalso
    rw[h3,h4]at he
    simp only[Bool.false_eq_true,if_false]at he
    split at he <;> simp at he
   ·right;refine⟨rfl,rfl,?_⟩;simp
  ·left;refine⟨rfl,?_⟩;simp
 obtain⟨g,o,rfl,hgl,hcl⟩:=hr (by omega)
 have hcell:=hcl k hk
 rw[h39]at hcell
 have HAT:=aA (fun(w1:World) (h:Below w.heap.size w w1)=>zcD (some ⟨g,o,none⟩) c w.heap.size L k w1 (hr.below h (Nat.le_refl _)) hn (by omega))
 have HF:=aA (zaA 39)
 rw[show T.head 39=false from rfl]at HF
 have HLT:=aA (fun n=>zcW ((L.drop k).take n) ((hl.drop k).take n))
 have HCV:=aA (fun(n:Nat) (hkn:k+n≤L.length) (w1:World) (h:Below w.heap.size w w1)=>(by
  have h1:=zbi (((hr.below h (Nat.le_refl _)).dropA hc k).take n) ((hl.drop k).take _) (c-k)
  rw[show((L.drop k).take n).length=n by rw[List.length_take,List.length_drop];omega]at h1
  exact h1:(convert 58 9 (.slice (dropA (some ⟨g,o,none⟩) c k) n (c-k))).run Tryz.prog w1=.ok (.string (K.str ((L.drop k).take n))) w1))
 have HS:=aA (fun(n:Nat) (hkn:k+n≤L.length) (w1:World)=>(by
  have h1:=za5 w1 (some ⟨g,o,none⟩) c L.length k (k+n) (by omega) (by omega)
  rw[show k+n-k=n by omega,Int.natCast_add]at h1
  exact h1:(Instr.sliceAt 58 (.slice (some ⟨g,o,none⟩) L.length c) (some (.int .i64 k)) (some (.int .i64 ((k:Int)+(n:Int)))) none).run Tryz.prog w1=.ok (.slice (dropA (some ⟨g,o,none⟩) c k) n (c-k)) w1))
 have HB0:=aA (fun o=>((Below.refl w.heap.size w).alloc (Nat.le_refl _) o))
 have SC:=fun a w m X Y=>show(store a (.complex .f64 X Y) m).run Tryz.prog w=stored Tryz.prog w a (.complex .f64 X Y) m from run_store _ w a _ m rfl
 have hov:∀n,zdN L k (2,n,0)=.tuple #[.agg #[.int .i64 2,.string (K.str ((L.drop k).take n)),.complex .f64 (Fl.fl (Pl.pos (L.take k)).1) (Fl.fl (Pl.pos (L.take k)).2)],.int .i64 ((k:Int)+n),.int .i64 0]:=fun n=>by
  unfold zdN bB
  simp
 have HPV:Hid ((T.isLit ((L.drop k).take 3)=true→zdN L k (T.piece (L.drop k))=.tuple #[.agg #[.int .i64 2,.string (K.str ((L.drop k).take 3)),.complex .f64 (Fl.fl (Pl.pos (L.take k)).1) (Fl.fl (Pl.pos (L.take k)).2)],.int .i64 ((k:Int)+3),.int .i64 0])∧(T.isLit ((L.drop k).take 3)=false→T.isLit ((L.drop k).take 4)=true→zdN L k (T.piece (L.drop k))=.tuple #[.agg #[.int .i64 2,.string (K.str ((L.drop k).take 4)),.complex .f64 (Fl.fl (Pl.pos (L.take k)).1) (Fl.fl (Pl.pos (L.take k)).2)],.int .i64 ((k:Int)+4),.int .i64 0])):=aA (by
  refine⟨fun h=>?_,fun h h'=>?_⟩
  ·rcases hpc with⟨_,e⟩|⟨e1,_,_⟩
   ·rw[e];exact hov 3
   ·rw[h]at e1;cases e1
  ·rcases hpc with⟨e1,_⟩|⟨_,_,e⟩
   ·rw[h]at e1;cases e1
   ·rw[e];exact hov 4)
 have HB4:Hid (T.isLit ((L.drop k).take 3)=false→T.isLit ((L.drop k).take 4)=true):=aA (fun h=>by
  rcases hpc with⟨e1,_⟩|⟨_,e,_⟩
  ·rw[h]at e1;cases e1
  ·exact e)
 clear hpc hcl hr hz he hl h39 hov
 generalize zdN L k (T.piece (L.drop k))=V at *
 generalize Fl.fl (Pl.pos (L.take k)).1=X at *
 generalize Fl.fl (Pl.pos (L.take k)).2=Y at *
 go_enter Tryz.func100,Tryz.ntmps100
 go_wp2_with fail
 refine(HAT.out _ (HB0.out _)).mono ?_;rintro _ w' ⟨rfl,rfl⟩
 go_wp2_with fail
 refine(HF.out _).mono ?_;rintro _ w' ⟨rfl,rfl⟩
 go_wp2_with fail
 go_loop [10] (fun vi=>∃(n:Nat),(n=3∨(n=4∧T.isLit ((L.drop k).take 3)=false))∧vi=.int .i64 n) (fun vi=>5-(intOf vi).toNat)
 case atStart=>exact⟨3,.inl rfl,rfl⟩
 case round =>
  clear hcell
  obtain⟨n,hnn,rfl⟩:=hrel
  rcases hnn with rfl|⟨rfl,h3⟩
  ·rcases h3:T.isLit ((L.drop k).take 3) with _|_
   ·clear HPV
    have hlen4:k+3≤L.length:=by
     have h1:=T.isLit_len (HB4.out h3)
     rw[List.length_take,List.length_drop]at h1
     omega
    have C1:=HCV.out 3 hlen4 (((w.alloc bL).alloc (.cells #[.int .i64 0,.string ⟨#[]⟩,.complex .f64 X Y] 143))) ((HB0.out bL).alloc (by simp) _)
    unfold bL at C1
    have S1:∀w,(Instr.sliceAt 58 (.slice (some ⟨g,o,none⟩) L.length c) (some (.int .i64 k)) (some (.int .i64 ((k:Int)+3))) none).run Tryz.prog w=.ok (.slice (dropA (some ⟨g,o,none⟩) c k) 3 (c-k)) w:=HS.out 3 hlen4
    have HLj:=aA (HLT.out 3)
    rw[h3]at HLj
    have H3:=aA h3
    have hl3:¬(k:Int)+3 > (L.length:Int):=by omega
    clear h3
    generalize hst:K.str ((L.drop k).take 3)=st at *
    clear hst
    go_wp2_with fail
    refine(HLj.out _).mono ?_;rintro _ w' ⟨rfl,rfl⟩
    go_wp2
    go_round
    case rel=>exact⟨4,by simp,by go_num⟩
    case measure=>simp[intOf]
   ·have hA:=h3
    clear h3 HB4
    have hlen:k+3≤L.length:=by
     have h1:=T.isLit_len hA
     rw[List.length_take,List.length_drop]at h1
     omega
    have hV:=HPV.out.1 hA
    have C1:=HCV.out 3 hlen (((w.alloc bL).alloc (.cells #[.int .i64 0,.string ⟨#[]⟩,.complex .f64 X Y] 143))) ((HB0.out bL).alloc (by simp) _)
    unfold bL at C1
    have S1:∀w,(Instr.sliceAt 58 (.slice (some ⟨g,o,none⟩) L.length c) (some (.int .i64 k)) (some (.int .i64 ((k:Int)+3))) none).run Tryz.prog w=.ok (.slice (dropA (some ⟨g,o,none⟩) c k) 3 (c-k)) w:=HS.out 3 hlen
    have HLj:=aA (HLT.out 3)
    rw[hA]at HLj
    have HV:=aA hV
    have hl3:¬(k:Int)+3 > (L.length:Int):=by omega
    clear hA hV
    go_wp2_with fail
    refine(HLj.out _).mono ?_;rintro _ w' ⟨rfl,rfl⟩
    go_upto_region 17 with fail
    have hb5:Below w.heap.size w ((((w.alloc bL).alloc (.cells #[.int .i64 0,.string ⟨#[]⟩,.complex .f64 X Y] 143))).drew):=aB ((HB0.out bL).alloc (by simp) _) 1
    unfold bL at hb5
    have CC:=fun y:Calm.On w.heap.size w=>HCV.out 3 hlen y.1 y.2
    refine Calm.region_tree (fun x=>∃y:Calm.On w.heap.size w,x=y.1) (.one [0,1,2,3,4,5,6,7] 8 (.one [9] 10 (.fin []))) (by kernel_rfl) (by kernel_rfl) (fun _ _ d _ _ h=>by cases d <;> exact h) ⟨⟨_,hb5⟩,rfl⟩ ?_
    simp only[Calm.wpT,Calm.wpSt,Calm.pickOps,List.getElem?_toArray,List.getElem?_cons_zero,List.getElem?_cons_succ]
    repeat (go_big_quiet_step (fail))
    refine wpQuiet_nil ?_
    clear CC HCV HS S1 hb5 C1
    have HBE:=aA (fun o1 o2=>aB ((HB0.out o1).alloc (by simp) o2) 1)
    intro KK hKK
    try rw[if_pos (by rfl)]
    go_wp2_with fail
    refine hKK _ _ ⟨⟨_,HBE.out _ _⟩,rfl⟩ (fun x=>∃y:Calm.On w.heap.size w,x=y.1) (fun _ h=>h) ⟨⟨_,HBE.out _ _⟩,rfl⟩ ?_
    repeat (go_big_quiet_step (fail))
    refine wpQuiet_nil ?_
    intro KK hKK
    try rw[if_pos (by rfl)]
    go_wp2_with fail
    refine hKK _ _ ⟨⟨_,HBE.out _ _⟩,rfl⟩ (fun x=>∃y:Calm.On w.heap.size w,x=y.1) (fun _ h=>h) ⟨⟨_,HBE.out _ _⟩,rfl⟩ ?_
    refine wpQuiet_nil ?_
    go_wp2
    exact bodyPost_ret (v:=.tuple #[.agg #[.int .i64 2,.string (K.str ((L.drop k).take 3)),.complex .f64 X Y],.int .i64 ((k:Int)+3),.int .i64 0]) (by simp[results,Tryz.results100,go_sem]) rfl ⟨by rw[HV.out],HBE.out _ _⟩
  ·have hA:=HB4.out h3
   clear HB4
   have hlen:k+4≤L.length:=by
    have h1:=T.isLit_len hA
    rw[List.length_take,List.length_drop]at h1
    rcases h1 with h1|h1
    ·exfalso
     have e3:(L.drop k).take 3=L.drop k:=List.take_of_length_le (by rw[List.length_drop];omega)
     have e4:(L.drop k).take 4=L.drop k:=List.take_of_length_le (by rw[List.length_drop];omega)
     rw[e3]at h3
     rw[e4]at hA
     rw[h3]at hA;cases hA
    ·omega
   have hV:=HPV.out.2 h3 hA
   have C1:=HCV.out 4 hlen (((w.alloc bL).alloc (.cells #[.int .i64 0,.string ⟨#[]⟩,.complex .f64 X Y] 143))) ((HB0.out bL).alloc (by simp) _)
   unfold bL at C1
   have S1:∀w,(Instr.sliceAt 58 (.slice (some ⟨g,o,none⟩) L.length c) (some (.int .i64 k)) (some (.int .i64 ((k:Int)+4))) none).run Tryz.prog w=.ok (.slice (dropA (some ⟨g,o,none⟩) c k) 4 (c-k)) w:=HS.out 4 hlen
   have HLj:=aA (HLT.out 4)
   rw[hA]at HLj
   have HV:=aA hV
   have hl3:¬(k:Int)+4 > (L.length:Int):=by omega
   clear hA hV h3
   go_wp2_with fail
   refine(HLj.out _).mono ?_;rintro _ w' ⟨rfl,rfl⟩
   go_upto_region 17 with fail
   have hb5:Below w.heap.size w ((((w.alloc bL).alloc (.cells #[.int .i64 0,.string ⟨#[]⟩,.complex .f64 X Y] 143))).drew):=aB ((HB0.out bL).alloc (by simp) _) 1
   unfold bL at hb5
   have CC:=fun y:Calm.On w.heap.size w=>HCV.out 4 hlen y.1 y.2
   refine Calm.region_tree (fun x=>∃y:Calm.On w.heap.size w,x=y.1) (.one [0,1,2,3,4,5,6,7] 8 (.one [9] 10 (.fin []))) (by kernel_rfl) (by kernel_rfl) (fun _ _ d _ _ h=>by cases d <;> exact h) ⟨⟨_,hb5⟩,rfl⟩ ?_
   simp only[Calm.wpT,Calm.wpSt,Calm.pickOps,List.getElem?_toArray,List.getElem?_cons_zero,List.getElem?_cons_succ]
   repeat (go_big_quiet_step (fail))
   refine wpQuiet_nil ?_
   clear CC HCV HS S1 hb5 C1
   have HBE:=aA (fun o1 o2=>aB ((HB0.out o1).alloc (by simp) o2) 1)
   intro KK hKK
   try rw[if_pos (by rfl)]
   go_wp2_with fail
   refine hKK _ _ ⟨⟨_,HBE.out _ _⟩,rfl⟩ (fun x=>∃y:Calm.On w.heap.size w,x=y.1) (fun _ h=>h) ⟨⟨_,HBE.out _ _⟩,rfl⟩ ?_
   repeat (go_big_quiet_step (fail))
   refine wpQuiet_nil ?_
   intro KK hKK
   try rw[if_pos (by rfl)]
   go_wp2_with fail
   refine hKK _ _ ⟨⟨_,HBE.out _ _⟩,rfl⟩ (fun x=>∃y:Calm.On w.heap.size w,x=y.1) (fun _ h=>h) ⟨⟨_,HBE.out _ _⟩,rfl⟩ ?_
   refine wpQuiet_nil ?_
   go_wp2
   exact bodyPost_ret (v:=.tuple #[.agg #[.int .i64 2,.string (K.str ((L.drop k).take 4)),.complex .f64 X Y],.int .i64 ((k:Int)+4),.int .i64 0]) (by simp[results,Tryz.results100,go_sem]) rfl ⟨by rw[HV.out],HBE.out _ _⟩
theorem zg0 (A:Option Addr) (c:Nat) (L:List Int) (k:Nat) (w:World) (hr:RdB w w.heap.size A L) (hl:K.Bytes L) (hc:L.length≤c) (hn:L.length≤2000) (hk:k<L.length) (he:(T.piece (L.drop k)).2.2=0) (hx:(T.piece (L.drop k)).1≠0) :
  Calls Tryz.prog 100 #[.slice A L.length c,.int .i64 k] w fun e w'=>e=.returned (zdN L k (T.piece (L.drop k)))∧Below w.heap.size w w':=by
 rcases hh:T.head (L.getD k 0) with _|_
 ·by_cases h39:L.getD k 0=39
  ·exact zim A c L k w hr hl hc hn hk he h39
  ·by_cases h37:L.getD k 0=37
   ·rcases hp:T.pre (L.drop k) [37,37] with _|_
    ·exact zhb A c L k w hr hl hc hn hk he hx h37 hp
    ·exact zhe A c L k w hr hl hc hn hk hp
   ·exact zhc A c L k w hr hl hc hn hk he hx hh h39 h37
 ·exact zhd A c L k w hr hl hc hn hk he hh
theorem zfN (A:Option Addr) (c:Nat) (L:List Int) (xs:List Tok) (w:World) (hr:RdB w w.heap.size A L) (hl:K.Bytes L) (hc:L.length≤c) (hn:L.length≤2000) (hx:zh7 L=.ok xs) :
  Calls Tryz.prog 69 #[.slice A L.length c] w (ziG L (.ok xs) w):=by
 have HSK:=aA (fun(w1:World) (h:Below w.heap.size w w1) (k:Nat) (hk:k<L.length) (he:(T.piece (L.drop k)).2.2=0)=>zfO A c w.heap.size L k w1 (hr.below h (Nat.le_refl _)) hl hc (by omega) hk he)
 have HON:=aA (fun(w1:World) (h:Below w.heap.size w w1) (k:Nat) (hk:k<L.length) (he:(T.piece (L.drop k)).2.2=0) (hx:(T.piece (L.drop k)).1≠0)=>zg0 A c L k w1 (hr.up h) hl hc hn hk he hx)
 have HAT:=aA (fun(w1:World) (h:Below w.heap.size w w1)=>zcD A c w.heap.size L L.length w1 (hr.below h (Nat.le_refl _)) hn (Nat.le_refl _))
 have HFN:=aA (fun(k:Nat) (hk:k<L.length)=>T.piece_fine (L.drop k) (by rw[List.length_drop];omega) (hl.drop k))
 have HX:=aA hx
 have HB0:Hid (Below w.heap.size w w):=aA (Below.refl _ _)
 have SC:=fun a w m X Y=>show(store a (.complex .f64 X Y) m).run Tryz.prog w=stored Tryz.prog w a (.complex .f64 X Y) m from run_store _ w a _ m rfl
 clear hr hl hx
 go_enter Tryz.func69,Tryz.ntmps69
 go_wp2
 go_loopw [5,6,7] (fun v vk vm wr=>∃(f k m:Nat) (acc:List Tok),vk=.int .i64 k∧vm=.int .i64 m∧k≤L.length∧m≤2∧L.length<k+f∧acc.length≤k∧bP L wr w.heap.size v acc∧Below w.heap.size w wr∧ze2 f (L.drop k) k m acc=.ok xs) (fun _ vk _ _=>L.length-(intOf vk).toNat)
 case atStart=>exact⟨L.length+1,0,0,[],rfl,rfl,by omega,by omega,by omega,by simp,bP.nil _ _ _,HB0.out,by have:=HX.out;unfold zh7 at this;simpa using this⟩
 case round =>
  clear HX HB0
  obtain⟨f,k,m,acc,rfl,rfl,hk,hmk,hf,hacc,ho,hb,hsc⟩:=hrel
  have HO:=aA ho
  have HB:=aA hb
  have HSC:=aA hsc
  have HMK:=aA hmk
  obtain⟨A0,c0,rfl,hq1,hq2⟩:=ho.form
  clear ho hb hsc hmk hq1 hq2
  by_cases hend:L.length≤k∨2≤m
  ·have hmb:=HMK.out
   have hxs:xs=acc:=by
    have:=HSC.out
    rw[zej _ _ _ _ _ (by rw[List.length_drop];omega)]at this
    injection this with this
    exact this.symm
   subst hxs
   have HATw:=aA (HAT.out wr HB.out)
   rw[List.take_length]at HATw
   clear HAT HSK HON HFN HSC
   by_cases hlt:k<L.length
   ·have hm2:¬(m:Int)<2:=by omega
    clear hend
    go_wp2_with fail
    refine(HATw.out).mono ?_;rintro _ w' ⟨rfl,rfl⟩
    go_wp2
    go_ret3
    exact⟨_,rfl,HO.out,HB.out⟩
   ·have hlt2:¬(k:Int)<(L.length:Int):=by omega
    clear hend
    go_wp2_with fail
    refine(HATw.out).mono ?_;rintro _ w' ⟨rfl,rfl⟩
    go_wp2
    go_ret3
    exact⟨_,rfl,HO.out,HB.out⟩
  ·have hlt:k<L.length:=by omega
   have hm2:(m:Int)<2:=by omega
   obtain⟨f,rfl⟩:∃f',f=f'+1:=⟨f-1,by omega⟩
   have hne:¬((L.drop k).length=0∨m=2):=by rw[List.length_drop];omega
   have he:(T.piece (L.drop k)).2.2=0:=by
    by_cases h:(T.piece (L.drop k)).2.2=0
    ·exact h
    ·have:=HSC.out
     rw[zek _ _ _ _ _ hne h]at this
     cases this
   have hso:=HSC.out
   rw[zfI _ _ _ _ _ hne he,List.drop_drop]at hso
   have hfine:=HFN.out k hlt
   obtain⟨h1,h2,h3,_,_,_⟩:=hfine
   obtain⟨h4,h5,_,_⟩:=h1 he
   rw[List.length_drop]at h5
   have HSKw:=aA (HSK.out wr HB.out k hlt he)
   have HONw:=aA (HON.out wr HB.out k hlt he)
   clear HSK HON HFN HAT HSC h1 hne hend
   unfold zdN at HONw
   generalize T.piece (L.drop k)=x at *
   obtain⟨xk,xn,xe⟩:=x
   simp only at he h2 h3 h4 h5
   subst he
   have HSO:=aA hso
   clear hso
   by_cases hk0:xk=0
   ·subst hk0
    have hv:zcm k (0,xn,0)=.tuple #[.int .i64 ((k+xn:Nat):Int),.bool true]:=rfl
    rw[hv]at HSKw
    have HS2:Hid (ze2 f (L.drop (k+xn)) (k+xn) m acc=.ok xs):=aA HSO.out
    have hpos:¬((k+xn:Nat):Int)<0:=by omega
    clear hv HSO HONw
    generalize hj:k+xn=j at *
    have HJ:=aA hj
    clear hj
    go_wp2_with fail
    refine HSKw.out.mono ?_;rintro _ w' ⟨rfl,rfl⟩
    go_wp2
    go_roundw
    case rel=>exact⟨f,j,m,acc,rfl,rfl,by have:=HJ.out;omega,HMK.out,by have:=HJ.out;omega,by have:=HJ.out;omega,HO.out,HB.out,HS2.out⟩
    case measure=>have:=HJ.out;simp[intOf];omega
   ·have hv:zcm k (xk,xn,0)=.tuple #[.int .i64 k,.bool false]:=zei hk0
    rw[hv]at HSKw
    have HO1:=aA (HONw.out hk0)
    simp only at HO1
    have HMR:Hid (more acc k (xk,xn,0) (L.drop k)=acc++[⟨xk,bB xk ((L.drop k).take xn),k⟩]):=aA (by unfold more;rw[if_neg hk0])
    rw[HMR.out]at HSO
    have hpos:¬((k:Nat):Int)<0:=by omega
    clear hv HONw HMR hk0
    go_wp2_with fail
    refine HSKw.out.mono ?_;rintro _ w' ⟨rfl,rfl⟩
    go_wp2_with fail
    refine HO1.out.mono ?_;rintro _ w2 ⟨rfl,hb2⟩
    have HB2:=aA (HB.out.trans (hb2.mono HB.out.size))
    have HO2:=aA (HO.out.below hb2 (Nat.le_refl _))
    clear hb2 HO1 HSKw HO HB
    have HCE:Hid (∀o j u,(zaM L ⟨xk,bB xk ((L.drop k).take xn),k⟩)[j]?=some u→((w2.alloc o).alloc (.cells #[.int .i64 xk,.string (K.str (bB xk ((L.drop k).take xn))),.complex .f64 (Fl.fl (Pl.pos (L.take k)).1) (Fl.fl (Pl.pos (L.take k)).2)] 143)).cell? ⟨w2.heap.size+1,j,none⟩=some u):=aA (by
     intro o j u hu
     have e:w2.heap.size+1=(w2.alloc o).heap.size:=by simp
     rw[e,World.cell?_alloc_new]
     simpa[zaM] using hu)
    have HGW:=aA (fun o1 o2=>(HB2.out.alloc HB2.out.size o1).alloc (by have:=HB2.out.size;simp;omega) o2)
    rcases hk9:(xk==9) with _|_
    ·have HMK2:Hid (zbx m (xk,xn,0)=m):=aA (by unfold zbx;rw[if_neg (by simpa using hk9)])
     rw[HMK2.out]at HSO
     go_wp2_with (at_builtin;refine zgE rfl (.tmp 54) (.tmp 56) _ rfl Tryz.underlying106 L w.heap.size _ acc rfl ((HO2.out.alloc _).alloc _) _ 1 ⟨xk,bB xk ((L.drop k).take xn),k⟩ rfl (HCE.out _) (by omega) (by have:=HB2.out.size;simp;omega) ?_;intro v3 w3 ho3 hg3)
     have HB3:=aA (zbG (HGW.out _ _) ((HO2.out.alloc _).alloc _) hg3 (by have:=HB2.out.size;simp;omega))
     have HO3:=aA ho3
     clear ho3 hg3
     go_roundw
     case rel=>exact⟨f,k+xn,m,acc++[⟨xk,bB xk ((L.drop k).take xn),k⟩],by go_num,rfl,by omega,by have:=HMK.out;omega,by omega,by simp;omega,HO3.out,HB3.out,HSO.out⟩
     case measure=>simp[intOf];omega
    ·have HMK2:Hid (zbx m (xk,xn,0)=m+1):=aA (by unfold zbx;rw[if_pos (by simpa using hk9)])
     rw[HMK2.out]at HSO
     go_wp2_with (at_builtin;refine zgE rfl (.tmp 54) (.tmp 56) _ rfl Tryz.underlying106 L w.heap.size _ acc rfl ((HO2.out.alloc _).alloc _) _ 1 ⟨xk,bB xk ((L.drop k).take xn),k⟩ rfl (HCE.out _) (by omega) (by have:=HB2.out.size;simp;omega) ?_;intro v3 w3 ho3 hg3)
     have HB3:=aA (zbG (HGW.out _ _) ((HO2.out.alloc _).alloc _) hg3 (by have:=HB2.out.size;simp;omega))
     have HO3:=aA ho3
     clear ho3 hg3
     go_roundw
     case rel=>exact⟨f,k+xn,m+1,acc++[⟨xk,bB xk ((L.drop k).take xn),k⟩],by go_num,by go_num,by omega,by have:=HMK.out;omega,by omega,by simp;omega,HO3.out,HB3.out,HSO.out⟩
     case measure=>simp[intOf];omega
theorem bE.less5 {L:List Int} {w:World} {base base':Nat} {v:Value} {ds:List Y.Dcl} (h:bE L w base v ds) (hb:base'≤base):bE L w base' v ds:=by
 obtain⟨qs,h1,h2,h3⟩:=h
 refine⟨qs,h1,⟨h2.1,?_⟩,fun q hq=>(h3 q hq).less hb⟩
 rcases h2.2 with h0|⟨g,cap,cur,e,hb1,hr⟩
 ·exact .inl h0
 ·exact .inr ⟨g,cap,cur,e,by omega,hr⟩
theorem bD.less5 {L:List Int} {w:World} {base base':Nat} {v:Value} {ps:List Y.Prd} (h:bD L w base v ps) (hb:base'≤base):bD L w base' v ps:=by
 obtain⟨qs,h1,h2,h3⟩:=h
 refine⟨qs,h1,⟨h2.1,?_⟩,fun q hq=>(h3 q hq).less hb⟩
 rcases h2.2 with h0|⟨g,cap,cur,e,hb1,hr⟩
 ·exact .inl h0
 ·exact .inr ⟨g,cap,cur,e,by omega,hr⟩
theorem zar {w:World} {g:Nat} {cs:Array Value} (h:w.heap[g]?=some (.cells cs 78 (0,0))):a8 w (some g):=zbO h (by decide)
theorem zcT (ts:List Gm.Tm) (n:Nat) (h:n<ts.length) (a b:Int):((zdP ts).set (n*3+1) (.int .i64 a)).set (n*3+2) (.int .i64 b)=zdP (ts.modify n fun t=>⟨t.nm,a,b⟩):=by
 induction ts generalizing n with
 | nil=>simp at h
 | cons t r ih =>
  have e:zdP (t::r)=tmC t++zdP r:=by unfold zdP;rw[List.flatMap_cons]
  cases n with
  | zero =>
   rw[e]
   simp[tmC,zdP,List.modify]
  | succ n =>
   have hl:(tmC t).length=3:=rfl
   rw[e,List.set_append_right _ _ (by omega),List.set_append_right _ _ (by omega),hl,show(n+1)*3+1-3=n*3+1 by omega,show(n+1)*3+2-3=n*3+2 by omega,ih n (by simpa using h)]
   rw[List.modify_succ_cons]
   unfold zdP
   rw[List.flatMap_cons]
theorem za4 {w:World} {base:Nat} {v:Value} {ts:List Gm.Tm} (h:aX w base v ts) (n:Nat) (hn:n<ts.length):∃g c,v=.slice (some ⟨g,0,none⟩) ts.length c∧ts.length≤c∧w.cell? ⟨g,n*3+1,none⟩=some (.int .i64 ts[n].lv)∧w.cell? ⟨g,n*3+2,none⟩=some (.int .i64 ts[n].wy)∧(∀j,w.frozen? ⟨g,j,none⟩=false)∧base≤g∧g<w.heap.size∧∃cur,w.heap[g]?=some (.cells cur 104 (0,0)):=by
 rcases h.2 with⟨_,h0⟩|⟨g,cap,cur,rfl,hb,hg,hnc,hm,hs,ht⟩
 ·omega
 ·refine⟨g,cap,rfl,hnc,?_,?_,fun j=>frozen_of_row w g j _ _ hg,hb,(Array.getElem?_eq_some_iff.1 hg).1,cur,hg⟩
  ·rw[World.ownsRow.cellAt h (n*3+1) (by omega)]
   exact zbg tmC (fun _=>rfl) ts n 1 hn (by omega)
  ·rw[World.ownsRow.cellAt h (n*3+2) (by omega)]
   exact zbg tmC (fun _=>rfl) ts n 2 hn (by omega)
def rfX (L:List Int) (x:Tok):Nat:=Fl.fl (Pl.pos (L.take x.o)).1
def rfY (L:List Int) (x:Tok):Nat:=Fl.fl (Pl.pos (L.take x.o)).2
def setSt (S:St) (x:Tok):St:={S with s:={S.s with st:=some x} }
def ziJ (L:List Int) (w:World) (B:Nat) (A:Option Addr) (xs:List Tok):Prop :=
 xs.length≠0→∃g o,A=some ⟨g,o,none⟩∧g<B∧∀i (h:i<xs.length),w.cell? ⟨g,o+i*2,none⟩=some (.string (K.str xs[i].t))∧w.cell? ⟨g,o+i*2+1,none⟩=some (.complex .f64 (rfX L xs[i]) (rfY L xs[i]))
def ziL (L:List Int) (w:World) (B:Nat) (A:Option Addr) (ds:List Y.Dcl):Prop :=
 ds.length≠0→∃g o,A=some ⟨g,o,none⟩∧g<B∧∀i (h:i<ds.length),w.cell? ⟨g,o+i*2,none⟩=some (.int .i64 ds[i].k)∧∃A' c',w.cell? ⟨g,o+i*2+1,none⟩=some (.slice A' ds[i].ns.length c')∧ziJ L w B A' ds[i].ns
theorem ziJ.keep {L:List Int} {w w':World} {B:Nat} {A:Option Addr} {xs:List Tok} (h:ziJ L w B A xs) (hb:Below B w w'):ziJ L w' B A xs:=fun hn=>by
 obtain⟨g,o,e,hg,hc⟩:=h hn
 exact⟨g,o,e,hg,fun i hi=>⟨(hb.cell (p:=⟨g,o+i*2,none⟩) hg).trans (hc i hi).1,(hb.cell (p:=⟨g,o+i*2+1,none⟩) hg).trans (hc i hi).2⟩⟩
theorem ziL.keep {L:List Int} {w w':World} {B:Nat} {A:Option Addr} {xs:List Y.Dcl} (h:ziL L w B A xs) (hb:Below B w w'):ziL L w' B A xs:=fun hn=>by
 obtain⟨g,o,e,hg,hc⟩:=h hn
 refine⟨g,o,e,hg,fun i hi=>?_⟩
 obtain⟨h1,A',c',h2,h3⟩:=hc i hi
 exact⟨(hb.cell (p:=⟨g,o+i*2,none⟩) hg).trans h1,A',c',(hb.cell (p:=⟨g,o+i*2+1,none⟩) hg).trans h2,h3.keep hb⟩
theorem zhv {k:Int} {s s':Gm.S1} {x:Tok} (h:Gm.decl1 k s x=.ok s'):s'.lv=s.lv:=by
 unfold Gm.decl1 at h
 split at h
 ·split at h
  ·cases h
  ·injection h with h;subst h;rfl
 ·split at h
  ·split at h
   ·cases h
   ·obtain⟨p,_,h⟩:=Gm.R.bind_eq h
    injection h with h;subst h;rfl
  ·split at h
   ·cases h
   ·obtain⟨p,_,h⟩:=Gm.R.bind_eq h
    injection h with h;subst h;rfl
theorem zeE {k:Int}:∀(xs:List Tok) {s s':Gm.S1},Gm.declN k s xs=.ok s'→s'.lv=s.lv
 | [],s,s',h=>by rw[Gm.declN]at h;injection h with h;subst h;rfl
 | x::r,s,s',h=>by
  rw[Gm.declN]at h
  obtain⟨s1,h1,h2⟩:=Gm.R.bind_eq h
  rw[zeE r h2,zhv h1]
theorem zfp {s:Gm.S1} {ds:List Y.Dcl} {i:Nat} (h:i<ds.length):Gm.decls s (ds.drop i)=(Gm.declN ds[i].k (Gm.up ds[i].k s) ds[i].ns).bind fun s=>Gm.decls s (ds.drop (i+1)):=by
 rw[List.drop_eq_getElem_cons h,Gm.decls]
def ziK (L:List Int) (w:World) (B:Nat) (A:Option Addr) (ps:List Y.Prd):Prop :=
 ps.length≠0→∃g o,A=some ⟨g,o,none⟩∧g<B∧∀i (h:i<ps.length),w.cell? ⟨g,o+i*5,none⟩=some (.string (K.str ps[i].l.t))∧w.cell? ⟨g,o+i*5+1,none⟩=some (.complex .f64 (rfX L ps[i].l) (rfY L ps[i].l))∧(∃A' c',w.cell? ⟨g,o+i*5+2,none⟩=some (.slice A' ps[i].r.length c')∧ziJ L w B A' ps[i].r)∧w.cell? ⟨g,o+i*5+3,none⟩=some (.string (soS ps[i].p))∧w.cell? ⟨g,o+i*5+4,none⟩=some (.complex .f64 (soX L ps[i].p) (soY L ps[i].p))
theorem ziK.keep {L:List Int} {w w':World} {B:Nat} {A:Option Addr} {xs:List Y.Prd} (h:ziK L w B A xs) (hb:Below B w w'):ziK L w' B A xs:=fun hn=>by
 obtain⟨g,o,e,hg,hc⟩:=h hn
 refine⟨g,o,e,hg,fun i hi=>?_⟩
 obtain⟨h1,h2,⟨A',c',h3,h4⟩,h5,h6⟩:=hc i hi
 exact⟨(hb.cell (p:=⟨g,o+i*5,none⟩) hg).trans h1,(hb.cell (p:=⟨g,o+i*5+1,none⟩) hg).trans h2,⟨A',c',(hb.cell (p:=⟨g,o+i*5+2,none⟩) hg).trans h3,h4.keep hb⟩,(hb.cell (p:=⟨g,o+i*5+3,none⟩) hg).trans h5,(hb.cell (p:=⟨g,o+i*5+4,none⟩) hg).trans h6⟩
theorem zge {ts:List Gm.Tm} {ns ns':List (List Int)} {x:Tok} (h:Gm.left1 ts ns x=.ok ns') (hl:ns.length≤16):ns'.length≤16:=by
 rcases Gm.left1_ok h with⟨rfl,_⟩|⟨rfl,_,_,h4⟩
 ·exact hl
 ·rw[List.length_append,List.length_singleton];omega
theorem zff {ts:List Gm.Tm} {ns:List (List Int)} {ps:List Y.Prd} {i:Nat} (h:i<ps.length):Gm.lefts ts ns (ps.drop i)=(Gm.left1 ts ns ps[i].l).bind fun ns=>Gm.lefts ts ns (ps.drop (i+1)):=by
 rw[List.drop_eq_getElem_cons h,Gm.lefts]
theorem zgc {ts:List Gm.Tm} {ns:List (List Int)} {ps:List Y.Prd} {i:Nat} (h:ps.length≤i):Gm.lefts ts ns (ps.drop i)=.ok ns:=by
 rw[List.drop_eq_nil_of_le h,Gm.lefts]
def zb7 (L:List Int) (p:Y.Prd) (A:Option Addr) (c:Nat):Array Value:=#[.string (K.str p.l.t),.complex .f64 (rfX L p.l) (rfY L p.l),.slice A p.r.length c,.string (soS p.p),.complex .f64 (soX L p.p) (soY L p.p)]
theorem zaB {w:World} {o:Oper} {a:Act} {Q:Exit→Act→World→Prop} {K:Act→World→Prop}
  (s x:Operand) (t:TypeId) (ho:o.op=.call {callee:=.builtin .append,args:=#[s,x],argTypes:=#[t,t]}) (ht:Tryz.prog.underlying t=some (.slice 60))
  (base N:Nat) (v:Value) (rs:List Gm.Rl) (hs:a.eval s=v) (hown:bA w base N v rs) (g c:Nat) (q:RA) (hx:a.eval x=.slice (some ⟨g,0,none⟩) 1 c) (hz:∀j u,(rlC q)[j]?=some u→w.cell? ⟨g,j,none⟩=some u) (hr:q.1.r.length≤q.2.2∧q.2.2≤9223372036854775807∧bQ w base w.heap.size q.2.1 q.1.r)
  (hlen:rs.length≤1000000) (hbase:base≤w.heap.size) (hN:N≤w.heap.size)
  (hK:∀v' w',bA w' base w'.heap.size v' (rs++[q.1])→w.grownBy w' v.ownBlock→K (a.put o.dst v') w') :
  o.wp Tryz.prog a w K Q:=by
 obtain⟨i,hi,hz0,hz1,hz2⟩:=info_parts zhR
 obtain⟨qs,hq1,hq2,hq3,hq4⟩:=hown
 have hlq:qs.length=rs.length:=by rw[←hq1,List.length_map]
 refine wp_append_own w s x t ho base 60 i _ 3 40 ht hi hz0 hz1 hz2 rfl (by decide) v rs.length (ziO qs) hs hq2 ⟨g,0,none⟩ 1 c (rlC q) hx rfl ?_ ?_ (by unfold maxLen;omega) (by omega) hbase fun v' w' h1 h2 _=>hK v' w' ?_ h2
 ·intro j u hj
  rw[zdH,Nat.zero_add]
  exact hz j u hj
 ·intro u hu;simp[rlC]at hu;rcases hu with rfl|rfl|rfl <;> rfl
 ·have hng:∀g',v.ownBlock=some g'→(∀cur,w.heap[g']? ≠ some (.cells cur 3 (0,0)))∨w.heap.size≤g':=fun g' e=>by
   obtain⟨_,cur,hc⟩:=aH hq2 e
   exact .inl (aR hc (by decide))
  refine⟨qs++[q],by rw[List.map_append,hq1];rfl,?_,fun k hk=>?_,fun p hp=>?_⟩
  ·rw[List.length_append]
   unfold ziO
   rw[List.flatMap_append,List.flatMap_singleton]
   exact h1
  ·obtain⟨_,cur,hc⟩:=aH h1 hk
   exact(Array.getElem?_eq_some_iff.1 hc).1
  ·rcases List.mem_append.1 hp with h|h
   ·obtain⟨a1,a2,a3⟩:=hq4 p h
    exact⟨a1,a2,((a3.more hN).grown h2 hng).more h2.size⟩
   ·rw[List.mem_singleton]at h
    subst h
    exact⟨hr.1,hr.2.1,(hr.2.2.grown h2 hng).more h2.size⟩
theorem aS.row {w:World} {base B:Nat} {v:Value} {xs:List Int} (h:aS w base v xs) (hB:B≤base):∃A c,v=.slice A xs.length c∧xs.length≤c∧c≤9223372036854775807∧bQ w B w.heap.size A xs:=by
 rcases h.2 with⟨rfl,h0⟩|⟨g,cap,cur,rfl,hb,hg,hn,hm,hs,ht⟩
 ·exact⟨none,0,by rw[h0],by omega,by omega,fun hc=>absurd h0 hc⟩
 ·refine⟨some ⟨g,0,none⟩,cap,rfl,hn,by unfold maxLen at hm;omega,fun _=>⟨g,cur,rfl,by omega,(Array.getElem?_eq_some_iff.1 hg).1,hg,fun j hj=>?_⟩⟩
  have hq:(cur.toList.take (xs.length*1))[j]?=(xs.map (Value.int .i64))[j]?:=by rw[ht]
  rw[List.getElem?_take_of_lt (by omega),List.getElem?_map,List.getElem?_eq_getElem hj]at hq
  simpa using hq
theorem zb0 {ns:List (List Int)} {ts:List Gm.Tm} {acc:List Int} {p:Int} {xs:List Tok} {i:Nat} (h:i<xs.length):Gm.rights ns ts acc p (xs.drop i)=if acc.length=6 then .bad xs[i] 5 else(Gm.symR ns ts xs[i]).bind fun q=>Gm.rights ns q.1 (acc++[q.2]) (if 0≤q.2 then q.2 else p) (xs.drop (i+1)):=by
 rw[List.drop_eq_getElem_cons h,Gm.rights]
theorem zcB {ns:List (List Int)} {ts:List Gm.Tm} {acc:List Int} {p:Int} {xs:List Tok} {i:Nat} (h:xs.length≤i):Gm.rights ns ts acc p (xs.drop i)=.ok (ts,acc,p):=by
 rw[List.drop_eq_nil_of_le h,Gm.rights]
theorem zhz (z:Int) (w:World):(Instr.build 60 #[(0,.int .i64 z),(2,.int .i64 (-1))]).run Tryz.prog w=.ok (.agg #[.int .i64 z,.slice none 0 0,.int .i64 (-1)]) w:=run_build w 60 _ _ (by kernel_rfl)
theorem zab {w:World} {base N:Nat} {v:Value} {rs:List Gm.Rl} (h:bA w base N v rs):∃A c,v=.slice A rs.length c∧rs.length≤c∧c≤maxLen:=by
 obtain⟨qs,_,h2,_⟩:=h
 exact aM h2
theorem aS.set_away {w:World} {base g:Nat} {v:Value} {xs:List Int} {cs:Array Value} (h:aS w base v xs) (hg:w.heap[g]?=some (.cells cs 60 (0,0))) (j:Nat) (u:Value):aS (w.setCell ⟨g,j,none⟩ u) base v xs :=
 World.ownsRow.kept h (aD (World.grownBy.refl _ _) j u) (aP h hg (fun cur e=>by injection e with _ e;cases e))
theorem zbD (w:World) (base:Nat):aS w base (.slice none 0 0) []:=aS.nil w base
theorem zdv {L:List Int} {w:World} {base:Nat} {A:Option Addr} {xs:List Tok} (h:RdR L w base A xs):ziJ L w w.heap.size A xs:=fun hn=>by
 obtain⟨g,cur,e,_,hh,_⟩:=h hn
 obtain⟨g',e',_,hc⟩:=h.cell hn
 rw[e]at e'
 injection e' with e'
 injection e' with e'
 subst e'
 refine⟨g,0,e,(Array.getElem?_eq_some_iff.1 hh).1,fun i hi=>⟨?_,?_⟩⟩
 ·have:=hc i 0 _ hi (by omega) rfl
  rw[Nat.zero_add];exact this
 ·have:=hc i 1 _ hi (by omega) rfl
  rw[Nat.zero_add];exact this
theorem zgu {L:List Int} {w:World} {base:Nat} {v:Value} {ds:List Y.Dcl} (h:bE L w base v ds):∃A c,v=.slice A ds.length c∧ziL L w w.heap.size A ds:=by
 have h':=h
 obtain⟨qs,_,h2,_⟩:=h'
 rcases h2.2 with⟨hv,h0⟩|⟨g,cap,cur,hv,_,hg,_⟩
 ·exact⟨none,0,by rw[hv,h0],fun hn=>absurd h0 hn⟩
 ·refine⟨some ⟨g,0,none⟩,cap,hv,fun hn=>⟨g,0,rfl,(Array.getElem?_eq_some_iff.1 hg).1,fun i hi=>?_⟩⟩
  obtain⟨D,c,A,c',hv',k1,k2,k3⟩:=h.at i hi
  rw[hv]at hv'
  injection hv' with e1 e2 e3
  injection e1 with e1
  injection e1 with e1
  subst e1
  rw[Nat.zero_add]
  exact⟨k1,A,c',k2,zdv k3⟩
theorem zf4 {L:List Int} {w:World} {base:Nat} {v:Value} {ps:List Y.Prd} (h:bD L w base v ps):∃A c,v=.slice A ps.length c∧ziK L w w.heap.size A ps:=by
 have h':=h
 obtain⟨qs,_,h2,_⟩:=h'
 rcases h2.2 with⟨hv,h0⟩|⟨g,cap,cur,hv,_,hg,_⟩
 ·exact⟨none,0,by rw[hv,h0],fun hn=>absurd h0 hn⟩
 ·refine⟨some ⟨g,0,none⟩,cap,hv,fun hn=>⟨g,0,rfl,(Array.getElem?_eq_some_iff.1 hg).1,fun i hi=>?_⟩⟩
  obtain⟨D,c,A,c',hv',k,k3⟩:=h.at i hi
  rw[hv]at hv'
  injection hv' with e1 e2 e3
  injection e1 with e1
  injection e1 with e1
  subst e1
  rw[Nat.zero_add]
  refine⟨k 0 _ (by omega) rfl,k 1 _ (by omega) rfl,⟨A,c',k 2 _ (by omega) rfl,zdv k3⟩,?_,?_⟩
  ·refine k 3 _ (by omega) ?_
   unfold aU za7
   rcases ps[i].p with _|x <;> rfl
  ·refine k 4 _ (by omega) ?_
   unfold aU za7
   rcases ps[i].p with _|x <;> rfl
theorem ze7 {w:World} {base N:Nat} {A:Option Addr} {zs:List Int} (h:bQ w base N A zs) (hN:N≤w.heap.size):RdI w w.heap.size A zs:=fun hn=>by
 obtain⟨g,cur,e,_,hg,hh,hc⟩:=h hn
 refine⟨g,0,e,by omega,fun j hj=>?_⟩
 rw[Nat.zero_add,cell_of_row w g _ _ _ _ hh]
 rw[hc j hj]
 simp[List.getD,hj]
theorem zbf {w:World} {base:Nat} {v:Value} {ts:List Gm.Tm} (h:aX w base v ts):∃A c,v=.slice A ts.length c∧(ts.length≤c∧c≤9223372036854775807)∧zee w w.heap.size A ts:=by
 have h0:=h
 unfold aX at h0
 rcases h0.2 with⟨hv,h1⟩|⟨g,cap,cur,hv,_,hg,hn,hm,_⟩
 ·exact⟨none,0,by rw[hv,h1],by omega,fun hn=>absurd h1 hn⟩
 ·refine⟨some ⟨g,0,none⟩,cap,hv,⟨hn,by unfold maxLen at hm;omega⟩,fun _=>⟨g,0,rfl,(Array.getElem?_eq_some_iff.1 hg).1,fun i hi=>?_⟩⟩
  subst hv
  have k:=fun(j:Nat) (u:Value) (hj:j<3) (hu:(tmC ts[i])[j]?=some u)=>World.ownsRow.cells h0 (g:=g) rfl (i*3+j) u (by unfold zdP;rw[zbg tmC (fun _=>rfl) ts i j hi hj];exact hu)
  have k0:=k 0 _ (by omega) rfl
  have k1:=k 1 _ (by omega) rfl
  have k2:=k 2 _ (by omega) rfl
  rw[zdH,Nat.zero_add]at k0 k1 k2
  rw[Nat.zero_add]
  exact⟨k0,k1,k2⟩
theorem zbQ {w:World} {base:Nat} {v:Value} {ns:List (List Int)} (h:bG w base v ns):∃A c,v=.slice A ns.length c∧(ns.length≤c∧c≤9223372036854775807)∧RdN w w.heap.size A ns:=by
 have h0:=h
 unfold bG at h0
 rcases h0.2 with⟨hv,h1⟩|⟨g,cap,cur,hv,_,hg,hn,hm,_⟩
 ·exact⟨none,0,by rw[hv,h1],by omega,fun hn=>absurd h1 hn⟩
 ·refine⟨some ⟨g,0,none⟩,cap,hv,⟨hn,by unfold maxLen at hm;omega⟩,fun _=>⟨g,0,rfl,(Array.getElem?_eq_some_iff.1 hg).1,fun i hi=>?_⟩⟩
  subst hv
  have k:=World.ownsRow.cells h0 (g:=g) rfl i (.string (K.str ns[i])) (by unfold ziP;simp[hi])
  rw[zdH,Nat.zero_add]at k
  rw[Nat.zero_add]
  exact k
theorem zbj {w:World} {base N:Nat} {v:Value} {rs:List Gm.Rl} (h:bA w base N v rs) (hN:N≤w.heap.size):∃A c,v=.slice A rs.length c∧(rs.length≤c∧c≤9223372036854775807)∧zeQ w w.heap.size A rs:=by
 obtain⟨qs,rfl,h0,_,hq⟩:=h
 rcases h0.2 with⟨hv,h1⟩|⟨g,cap,cur,hv,_,hg,hn,hm,_⟩
 ·exact⟨none,0,by rw[hv,h1],by omega,fun hn=>absurd h1 hn⟩
 ·refine⟨some ⟨g,0,none⟩,cap,hv,⟨hn,by unfold maxLen at hm;omega⟩,fun _=>⟨g,0,rfl,(Array.getElem?_eq_some_iff.1 hg).1,fun i hi=>?_⟩⟩
  subst hv
  have hi':i<qs.length:=by simpa using hi
  have k:=fun(j:Nat) (u:Value) (hj:j<3) (hu:(rlC qs[i])[j]?=some u)=>World.ownsRow.cells h0 (g:=g) rfl (i*3+j) u (by unfold ziO;rw[zbg rlC (fun _=>rfl) qs i j hi' hj];exact hu)
  have k0:=k 0 _ (by omega) rfl
  have k1:=k 1 _ (by omega) rfl
  have k2:=k 2 _ (by omega) rfl
  rw[zdH,Nat.zero_add]at k0 k1 k2
  rw[Nat.zero_add]
  obtain⟨q1,q2,q3⟩:=hq qs[i] (List.getElem_mem hi')
  simp only[List.getElem_map]
  exact⟨k0,⟨_,_,k1,q1,q2,ze7 q3 hN⟩,k2⟩
def wC (vT vN vR:Value) (lv:Int):Array Value:=#[vT,vN,vR,.int .i64 0,.slice none 0 0,.string ⟨#[]⟩,.complex .f64 0 0,.bool false,.int .i64 lv,.complex .f64 0 0,.int .i64 0]
structure WRaw (w:World) (B N R:Nat) (cs:Array Value) (vT vN vR:Value) (ts:List Gm.Tm) (ns:List (List Int)) (rs:List Gm.Rl):Prop where
 b:w.heap[R]?=some (.cells cs 114 (0,0))
 t:aX w B vT ts
 n:bG w B vN ns
 r:bA w B N vR rs
 hR:B≤R
structure Off9 (w:World) (N:Nat) (row:Option Nat):Prop where
 h:∀g,row=some g→∃cs T,w.heap[g]?=some (.cells cs T (0,0))∧T≠114∧T≠104∧T≠9∧((T≠60∧T≠3)∨N≤g)
theorem Off9.none (w:World) (N:Nat):Off9 w N .none:=⟨fun _ h=>by cases h⟩
section
variable {w w':World} {B N R:Nat} {cs:Array Value} {vT vN vR:Value} {ts:List Gm.Tm} {ns:List (List Int)} {rs:List Gm.Rl} {row:Option Nat}
theorem WRaw.grown (h:WRaw w B N R cs vT vN vR ts ns rs) (hg:w.grownBy w' row) (ho:Off9 w N row):WRaw w' B N R cs vT vN vR ts ns rs:=by
 have hb:some R≠row:=fun e=>by
  obtain⟨cs,T,h1,h2,_⟩:=ho.h R e.symm
  exact aR h1 h2 _ h.b
 refine⟨(hg.block R (Array.getElem?_eq_some_iff.1 h.b).1 hb).trans h.b,World.ownsRow.kept h.t hg ?_,World.ownsRow.kept h.n hg ?_,h.r.grown hg ?_,h.hR⟩
 ·rcases row with _|g
  ·exact zat _
  ·obtain⟨cs,T,h1,_,h2,_⟩:=ho.h g rfl
   exact aP h.t h1 (fun cur e=>by injection e with _ e;exact h2 e)
 ·rcases row with _|g
  ·exact zat _
  ·obtain⟨cs,T,h1,_,_,h2,_⟩:=ho.h g rfl
   exact aP h.n h1 (fun cur e=>by injection e with _ e;exact h2 e)
 ·intro g e
  obtain⟨cs,T,h1,_,_,_,h2⟩:=ho.h g e
  rcases h2 with q|q
  ·exact .inl ⟨aR h1 q.2,aR h1 q.1⟩
  ·exact .inr q
theorem WRaw.below (h:WRaw w B N R cs vT vN vR ts ns rs) (hb:Below w.heap.size w w'):WRaw w' B N R cs vT vN vR ts ns rs:=h.grown (aL hb .none) (Off9.none _ _)
theorem WRaw.alloc (h:WRaw w B N R cs vT vN vR ts ns rs) (o:Obj):WRaw (w.alloc o) B N R cs vT vN vR ts ns rs:=h.grown (World.grownBy_alloc w o .none) (Off9.none _ _)
theorem WRaw.tm_put (h:WRaw w B N R cs vT vN vR ts ns rs) {v':Value} {ts':List Gm.Tm} (ht:aX w' B v' ts') (hg:w.grownBy w' vT.ownBlock):WRaw w' B N R cs v' vN vR ts' ns rs:=by
 refine⟨zaa h.b h.t (by decide) hg,ht,World.ownsRow.kept h.n hg (zag h.n h.t (by decide)),h.r.grown hg (fun g e=>.inl ?_),h.hR⟩
 obtain⟨_,cur,hc⟩:=aH h.t e
 exact⟨aR hc (by decide),aR hc (by decide)⟩
theorem WRaw.n_put (h:WRaw w B N R cs vT vN vR ts ns rs) {v':Value} {ns':List (List Int)} (ht:bG w' B v' ns') (hg:w.grownBy w' vN.ownBlock):WRaw w' B N R cs vT v' vR ts ns' rs:=by
 refine⟨zaa h.b h.n (by decide) hg,World.ownsRow.kept h.t hg (zag h.t h.n (by decide)),ht,h.r.grown hg (fun g e=>.inl ?_),h.hR⟩
 obtain⟨_,cur,hc⟩:=aH h.n e
 exact⟨aR hc (by decide),aR hc (by decide)⟩
theorem WRaw.r_put {N':Nat} (h:WRaw w B N R cs vT vN vR ts ns rs) {v':Value} {rs':List Gm.Rl} (ht:bA w' B N' v' rs') (hg:w.grownBy w' vR.ownBlock):WRaw w' B N' R cs vT vN v' ts ns rs':=by
 obtain⟨qs,_,h2,_⟩:=id h.r
 exact⟨zaa h.b h2 (by decide) hg,World.ownsRow.kept h.t hg (zag h.t h2 (by decide)),World.ownsRow.kept h.n hg (zag h.n h2 (by decide)),ht,h.hR⟩
theorem WRaw.set (h:WRaw w B N R cs vT vN vR ts ns rs) (j:Nat) (u:Value):WRaw (w.setCell ⟨R,j,none⟩ u) B N R (cs.setIfInBounds j u) vT vN vR ts ns rs:=by
 have hg:w.grownBy (w.setCell ⟨R,j,none⟩ u) (some R):=aD (World.grownBy.refl _ _) j u
 refine⟨heap_setCell_same w R j _ _ u h.b,World.ownsRow.kept h.t hg (aP h.t h.b (fun cur e=>by injection e with _ e;cases e)),World.ownsRow.kept h.n hg (aP h.n h.b (fun cur e=>by injection e with _ e;cases e)),h.r.grown hg (fun g e=>.inl ?_),h.hR⟩
 injection e with e
 subst e
 exact⟨aR h.b (by decide),aR h.b (by decide)⟩
theorem WRaw.more {N':Nat} (h:WRaw w B N R cs vT vN vR ts ns rs) (hN:N≤N'):WRaw w B N' R cs vT vN vR ts ns rs:=⟨h.b,h.t,h.n,h.r.more hN,h.hR⟩
theorem WRaw.at (h:WRaw w B N R cs vT vN vR ts ns rs) (j:Nat):w.cell? ⟨R,j,none⟩=cs[j]?∧w.frozen? ⟨R,j,none⟩=false∧R<w.heap.size :=
 ⟨cell_of_row w R j _ _ _ h.b,frozen_of_row w R j _ _ h.b,(Array.getElem?_eq_some_iff.1 h.b).1⟩
theorem WRaw.lt (h:WRaw w B N R cs vT vN vR ts ns rs):R<w.heap.size:=(Array.getElem?_eq_some_iff.1 h.b).1
theorem WRaw.rd (h:WRaw w B N R cs vT vN vR ts ns rs) (hN:N≤w.heap.size) (z:Int):aT w w.heap.size (.agg #[vT,vN,vR,.int .i64 z]) ⟨ts,ns,rs,z⟩:=by
 obtain⟨AT,cT,rfl,h1,h2⟩:=zbf h.t
 obtain⟨AN,cN,rfl,h3,h4⟩:=zbQ h.n
 obtain⟨AR,cR,rfl,h5,h6⟩:=zbj h.r hN
 exact⟨AT,cT,AN,cN,AR,cR,rfl,h1,h3,h5,h2,h4,h6⟩
end
def KpT (w w':World):Prop:=∀(g:Nat) (cs:Array Value) (T:TypeId),w.heap[g]?=some (.cells cs T (0,0))→T≠114→T≠104→w'.heap[g]?=some (.cells cs T (0,0))
def KpA (w w':World):Prop:=∀(g:Nat) (cs:Array Value) (T:TypeId),w.heap[g]?=some (.cells cs T (0,0))→T≠114→T≠104→T≠9→T≠60→w'.heap[g]?=some (.cells cs T (0,0))
theorem KpT.refl (w:World):KpT w w:=fun _ _ _ h _ _=>h
theorem KpA.refl (w:World):KpA w w:=fun _ _ _ h _ _ _ _=>h
theorem KpT.trans {a b c:World} (h:KpT a b) (k:KpT b c):KpT a c:=fun g cs T h1 h2 h3=>k g cs T (h g cs T h1 h2 h3) h2 h3
theorem KpA.trans {a b c:World} (h:KpA a b) (k:KpA b c):KpA a c:=fun g cs T h1 h2 h3 h4 h5=>k g cs T (h g cs T h1 h2 h3 h4 h5) h2 h3 h4 h5
theorem KpT.a {w w':World} (h:KpT w w'):KpA w w':=fun g cs T h1 h2 h3 _ _=>h g cs T h1 h2 h3
theorem KpT.below {w w':World} (h:Below w.heap.size w w'):KpT w w':=fun g _ _ h1 _ _=>(h.block g (Array.getElem?_eq_some_iff.1 h1).1).trans h1
theorem KpA.below {w w':World} (h:Below w.heap.size w w'):KpA w w':=(KpT.below h).a
theorem KpT.cells {w w':World} {g:Nat} (h:w.grownBy w' (some g)) {T:TypeId} {cs:Array Value} (hg:w.heap[g]?=some (.cells cs T (0,0))) (hT:T=114∨T=104):KpT w w':=fun k cs' T' h1 h2 h3=>by
 refine(h.block k (Array.getElem?_eq_some_iff.1 h1).1 (fun e=>?_)).trans h1
 injection e with e
 subst e
 rw[hg]at h1;injection h1 with h1;injection h1 with _ h1
 rcases hT with q|q
 ·exact h2 (h1.symm.trans q)
 ·exact h3 (h1.symm.trans q)
theorem KpA.cells {w w':World} {g:Nat} (h:w.grownBy w' (some g)) {T:TypeId} {cs:Array Value} (hg:w.heap[g]?=some (.cells cs T (0,0))) (hT:T=114∨T=104∨T=9∨T=60):KpA w w':=fun k cs' T' h1 h2 h3 h4 h5=>by
 refine(h.block k (Array.getElem?_eq_some_iff.1 h1).1 (fun e=>?_)).trans h1
 injection e with e
 subst e
 rw[hg]at h1;injection h1 with h1;injection h1 with _ h1
 rcases hT with q|q|q|q
 ·exact h2 (h1.symm.trans q)
 ·exact h3 (h1.symm.trans q)
 ·exact h4 (h1.symm.trans q)
 ·exact h5 (h1.symm.trans q)
theorem KpT.own {w w':World} {base size n:Nat} {v:Value} {xs:List Value} (ho:w.ownsRow base 104 size v n xs) (h:w.grownBy w' v.ownBlock):KpT w w':=by
 rcases hv:v.ownBlock with _|k
 ·rw[hv]at h;exact fun g _ _ h1 _ _=>(h.block g (Array.getElem?_eq_some_iff.1 h1).1 (by simp)).trans h1
 ·rw[hv]at h
  obtain⟨_,cur,hc⟩:=aH ho hv
  exact KpT.cells h hc (.inr rfl)
theorem KpA.own {w w':World} {base size n:Nat} {v:Value} {xs:List Value} {e:TypeId} (ho:w.ownsRow base e size v n xs) (h:w.grownBy w' v.ownBlock) (he:e=104∨e=9∨e=60):KpA w w':=by
 rcases hv:v.ownBlock with _|k
 ·rw[hv]at h;exact fun g _ _ h1 _ _ _ _=>(h.block g (Array.getElem?_eq_some_iff.1 h1).1 (by simp)).trans h1
 ·rw[hv]at h
  obtain⟨_,cur,hc⟩:=aH ho hv
  exact KpA.cells h hc (.inr he)
theorem KpT.set {w:World} {B N R:Nat} {cs:Array Value} {vT vN vR:Value} {ts:List Gm.Tm} {ns:List (List Int)} {rs:List Gm.Rl} (h:WRaw w B N R cs vT vN vR ts ns rs) (j:Nat) (u:Value):KpT w (w.setCell ⟨R,j,none⟩ u):=KpT.cells (aD (World.grownBy.refl w (some R)) j u) h.b (.inl rfl)
def Wk (w:World) (B N R:Nat) (ts:List Gm.Tm) (ns:List (List Int)) (rs:List Gm.Rl) (lv:Int):Prop:=∃vT vN vR,WRaw w B N R (wC vT vN vR lv) vT vN vR ts ns rs
theorem Wk.below {w w':World} {B N R:Nat} {ts:List Gm.Tm} {ns:List (List Int)} {rs:List Gm.Rl} {lv:Int} (h:Wk w B N R ts ns rs lv) (hb:Below w.heap.size w w'):Wk w' B N R ts ns rs lv:=by
 obtain⟨vT,vN,vR,h⟩:=h;exact⟨vT,vN,vR,h.below hb⟩
theorem Wk.alloc {w:World} {B N R:Nat} {ts:List Gm.Tm} {ns:List (List Int)} {rs:List Gm.Rl} {lv:Int} (h:Wk w B N R ts ns rs lv) (o:Obj):Wk (w.alloc o) B N R ts ns rs lv:=by
 obtain⟨vT,vN,vR,h⟩:=h;exact⟨vT,vN,vR,h.alloc o⟩
theorem Wk.more {w:World} {B N N' R:Nat} {ts:List Gm.Tm} {ns:List (List Int)} {rs:List Gm.Rl} {lv:Int} (h:Wk w B N R ts ns rs lv) (hN:N≤N'):Wk w B N' R ts ns rs lv:=by
 obtain⟨vT,vN,vR,h⟩:=h;exact⟨vT,vN,vR,h.more hN⟩
theorem Wk.lt {w:World} {B N R:Nat} {ts:List Gm.Tm} {ns:List (List Int)} {rs:List Gm.Rl} {lv:Int} (h:Wk w B N R ts ns rs lv):R<w.heap.size∧B≤R:=by
 obtain⟨vT,vN,vR,h⟩:=h;exact⟨h.lt,h.hR⟩
end Go.Proofs.YtabmfpgpkbndeaaGreat
namespace Go.Proofs.YtabmfpgpkbndeaaGreat
set_option maxRecDepth 100000
set_option maxHeartbeats 40000000
open Go.RowKit
theorem zgy (s:ByteArray) (w:World):(Instr.build 104 #[(0,.string s)]).run Tryz.prog w=.ok (.agg #[.string s,.int .i64 0,.int .i64 0]) w:=run_build w 104 _ _ (by kernel_rfl)
theorem zgD {w:World} {o:Oper} {a:Act} {KK:Act→World→Prop} {Q:Exit→Act→World→Prop}
  (s x:Operand) (t:TypeId) (ho:o.op=.call {callee:=.builtin .append,args:=#[s,x],argTypes:=#[t,t]}) (ht:Tryz.prog.underlying t=some (.slice 104))
  (base:Nat) (v:Value) (ts:List Gm.Tm) (hs:a.eval s=v) (hown:aX w base v ts) (g c:Nat) (y:Gm.Tm) (hx:a.eval x=.slice (some ⟨g,0,none⟩) 1 c) (hz:∀j,w.cell? ⟨g,j,none⟩=(tmC y)[j]?)
  (hlen:ts.length≤1000000) (hbase:base≤w.heap.size)
  (hK:∀v' w',aX w' base v' (ts++[y])→w.grownBy w' v.ownBlock→KK (a.put o.dst v') w') :
  o.wp Tryz.prog a w KK Q:=by
 obtain⟨i,hi,hz0,hz1,hz2⟩:=info_parts zhP
 refine wp_append_own w s x t ho base 104 i _ 3 32 ht hi hz0 hz1 hz2 rfl (by decide) v ts.length (zdP ts) hs hown ⟨g,0,none⟩ 1 c (tmC y) hx rfl ?_ ?_ (by unfold maxLen;omega) (by omega) hbase fun v' w' h1 h2 _=>hK v' w' ?_ h2
 ·intro j u hj
  rw[zdH,Nat.zero_add]
  exact(hz j).trans hj
 ·intro u hu;simp[tmC]at hu;rcases hu with rfl|rfl|rfl <;> rfl
 ·unfold aX zdP
  rw[List.length_append,List.flatMap_append,List.flatMap_singleton];exact h1
theorem zdm (L:List Int) (B N R:Nat) (ts ts':List Gm.Tm) (ns:List (List Int)) (rs:List Gm.Rl) (lv n:Int) (x:Tok) (w:World) (hw:Wk w B N R ts ns rs lv) (hf:Gm.Fit ⟨ts,ns,rs,0⟩) (hx:K.Tx x.t) (hN:N≤w.heap.size) (hB:B≤w.heap.size) (hp:Gm.put ts x=.ok (ts',n)) (h24:ts.length≤24) :
  Calls Tryz.prog 148 #[.pointer (some ⟨R,0,none⟩),bO L x] w fun e w'=>e=.returned (.int .i64 n)∧Wk w' B N R ts' ns rs lv∧Below B w w'∧KpT w w':=by
 have HW:=aA hw
 obtain⟨vT,vN,vR,h⟩:=hw
 have HH:=aA h
 obtain⟨AT,cT,rfl,hc1,_⟩:=aM h.t
 obtain⟨AN,cN,rfl,_,_⟩:=aM h.n
 have hr3:∃AR cR,vR=.slice AR rs.length cR:=by obtain⟨qs,_,h2,_⟩:=id h.r;obtain⟨A,c,e,_⟩:=aM h2;exact⟨A,c,e⟩
 obtain⟨AR,cR,rfl⟩:=hr3
 obtain⟨k0,hf0,hRs⟩:=h.at 0
 have k1:=(h.at 1).1
 have k2:=(h.at 2).1
 have k3:=(h.at 3).1
 simp only[wC,List.getElem?_toArray,List.getElem?_cons_zero,List.getElem?_cons_succ]at k0 k1 k2 k3
 have HX:=aA (Below.refl w.heap.size w)
 unfold bO
 obtain⟨w1,hw1⟩:∃y,y=w.alloc (.cells #[.string (K.str x.t),.complex .f64 (Fl.fl (Pl.pos (L.take x.o)).1) (Fl.fl (Pl.pos (L.take x.o)).2)] 112):=⟨_,rfl⟩
 have HB1:Hid (Below w.heap.size w w1):=aA (by rw[hw1];exact(Below.refl _ _).alloc (Nat.le_refl _) _)
 have HR1:Hid (w1.heap[w.heap.size]?=some (.cells #[.string (K.str x.t),.complex .f64 (Fl.fl (Pl.pos (L.take x.o)).1) (Fl.fl (Pl.pos (L.take x.o)).2)] 112 (0,0))):=aA (by rw[hw1];exact heap_alloc_new w _)
 have HT:=aA (fun(y:World) (hb:Below w1.heap.size w1 y)=>zbh (.agg #[.slice AT ts.length cT,.slice AN ns.length cN,.slice AR rs.length cR,.int .i64 0]) ⟨ts,ns,rs,0⟩ x.t w.heap.size y ((h.rd hN 0).below (HB1.out.trans (hb.mono HB1.out.size)) (Nat.le_refl _)) hf hx (Nat.le_trans HB1.out.size hb.size))
 unfold Gm.term at HT
 unfold Gm.put at hp
 have HP:=aA hp
 have HF:=aA hf
 clear hp h hf
 go_enter Tryz.func148,Tryz.ntmps148
 go_wp2_with fail
 rw[←hw1]
 clear hw1
 have hk:=HB1.out
 have p0:=(hk.cell (p:=⟨R,0,none⟩) hRs).trans k0
 have p1:=(hk.cell (p:=⟨R,1,none⟩) hRs).trans k1
 have p2:=(hk.cell (p:=⟨R,2,none⟩) hRs).trans k2
 have p3:=(hk.cell (p:=⟨R,3,none⟩) hRs).trans k3
 have hR1:R<w1.heap.size:=Nat.lt_of_lt_of_le hRs hk.size
 have hb1:w.heap.size<w1.heap.size:=(Array.getElem?_eq_some_iff.1 HR1.out).1
 have t0:w1.cell? ⟨w.heap.size,0,none⟩=some (.string (K.str x.t)):=by rw[cell_of_row w1 _ 0 _ _ _ HR1.out];rfl
 have Q0:=fun y:Calm.On w1.heap.size w1=>(y.2.cell (p:=⟨R,0,none⟩) hR1).trans p0
 have Q1:=fun y:Calm.On w1.heap.size w1=>(y.2.cell (p:=⟨R,1,none⟩) hR1).trans p1
 have Q2:=fun y:Calm.On w1.heap.size w1=>(y.2.cell (p:=⟨R,2,none⟩) hR1).trans p2
 have Q3:=fun y:Calm.On w1.heap.size w1=>(y.2.cell (p:=⟨R,3,none⟩) hR1).trans p3
 have Q4:=fun y:Calm.On w1.heap.size w1=>(y.2.cell (p:=⟨w.heap.size,0,none⟩) hb1).trans t0
 clear hk
 refine CalmN.region_tree (fun x=>∃y:Calm.On w1.heap.size w1,x=y.1) (.one [0,1,2,3,4,5] 6 (.fin [7])) (by kernel_rfl) (by kernel_rfl) (fun _ _ d _ _ h=>by cases d <;> exact h) ⟨⟨w1.drew,aB (Below.refl _ _) 1⟩,rfl⟩ ?_
 simp only[CalmN.wpT,CalmN.wpSt,CalmN.pickOps,List.getElem?_toArray,List.getElem?_cons_zero,List.getElem?_cons_succ]
 repeat (go_big_quiet_step (fail))
 refine wpQuiet_nil ?_
 clear Q0 Q1 Q2 Q3 Q4 p0 p1 p2 p3 t0 k0 k1 k2 k3
 intro KK hKK
 rw[if_pos (by rfl)]
 go_wp2_with fail
 refine(HT.out w1.drew (aB (Below.refl _ _) 1)).mono ?_;rintro _ w2 ⟨rfl,hb2⟩
 have hb12:Below w1.heap.size w1 w2:=(aB (Below.refl w1.heap.size w1) 1).trans hb2
 have HB12:=aA hb12
 clear hb2
 go_wp2_with fail
 refine hKK _ _ ⟨⟨w2,hb12⟩,rfl⟩ (fun x=>∃y:Calm.On w1.heap.size w1,x=y.1) (fun _ h=>h) ⟨⟨w2,hb12⟩,rfl⟩ ?_
 repeat (go_big_quiet_step (fail))
 refine wpQuiet_nil ?_
 have HB2:=aA (HB1.out.trans (hb12.mono HB1.out.size))
 have HW2:=aA (HH.out.below HB2.out)
 have HR2:=aA ((hb12.block w.heap.size hb1).trans HR1.out)
 clear hb12 hKK
 by_cases h0:0≤Gm.find (Gm.names ts) x.t
 ·have HE:Hid (ts=ts'∧Gm.find (Gm.names ts) x.t=n):=aA (by have h:=HP.out;rw[if_pos h0]at h;injection h with h;exact⟨congrArg Prod.fst h,congrArg Prod.snd h⟩)
  rw[HE.out.2]at h0 ⊢
  go_wp2
  go_ret
  exact⟨rfl,⟨_,_,_,by rw[←HE.out.1];exact HW2.out⟩,HB2.out.mono hB,KpT.below HB2.out⟩
 ·have HE:Hid (ts++[⟨x.t,0,0⟩]=ts'∧(ts.length:Int)=n∧ts.length≠24):=aA (by
   have h:=HP.out
   rw[if_neg h0]at h
   by_cases h24:ts.length=24
   ·rw[if_pos h24]at h;cases h
   ·rw[if_neg h24]at h;injection h with h;exact⟨congrArg Prod.fst h,congrArg Prod.snd h,h24⟩)
  have hl24:((ts.length:Int)==24)=false:=beq_eq_false_iff_ne.2 (by have:=HE.out.2.2;omega)
  obtain⟨k0,hf0,hR2⟩:=HW2.out.at 0
  simp only[wC,List.getElem?_toArray,List.getElem?_cons_zero]at k0
  generalize Gm.find (Gm.names ts) x.t=z at *
  go_wp2_with fail
  have HR2r:=HR2
  have HB26:=aA (HB2.out.mono hB)
  have HO6:=aA ((HW2.out.alloc (.cells (tmC ⟨x.t,0,0⟩).toArray 104)).t)
  have HB6:Hid (B≤(w2.alloc (.cells (tmC ⟨x.t,0,0⟩).toArray 104)).drew.heap.size):=aA (by have:=HB2.out.size;simp;omega)
  have HCE:=aA (aK w2 (tmC ⟨x.t,0,0⟩) 104)
  have HT6:Hid ((w2.alloc (.cells (tmC ⟨x.t,0,0⟩).toArray 104)).heap[w.heap.size]?=w2.heap[w.heap.size]?):=aA (((Below.refl _ w2).alloc (Nat.le_refl _) _).block _ (Array.getElem?_eq_some_iff.1 HR2.out).1)
  have RB:=fun w=>zgy (K.str x.t) w
  have D8:=fun y:Calm.OnB w.heap.size w2=>(show y.1.cell? ⟨w.heap.size,0,none⟩=some (.string (K.str x.t)) by rw[cell_of_row y.1 _ 0 _ _ _ (y.2.trans HR2.out)];rfl)
  refine CalmN.region_tree (fun y=>∃z:Calm.OnB w.heap.size w2,y=z.1) (.two [0,1,2,3,4,6,7,8] 5 (.one [] 9 (.one [] 10 (.one [11,12,13] 14 (.fin [])))) 9 (.one [] 5 (.one [] 10 (.one [11,12,13] 14 (.fin []))))) (by kernel_rfl) (by kernel_rfl) (fun _ _ d _ _ h=>by cases d <;> exact h) ⟨⟨w2.drew,rfl⟩,rfl⟩ ?_
  simp only[CalmN.wpT,CalmN.wpSt,CalmN.pickOps,List.getElem?_toArray,List.getElem?_cons_zero,List.getElem?_cons_succ]
  repeat (go_big_quiet_step (fail))
  refine wpQuiet_nil ?_
  clear D8
  refine⟨?_,?_⟩
  ·intro KK hKK
   rw[if_pos (by rfl)]
   go_wp2_with fail
   refine hKK _ _ ⟨⟨w2.drew,rfl⟩,rfl⟩ (fun y=>∃z:Calm.OnB w.heap.size w2,y=z.1) (fun _ h=>h) ⟨⟨w2.drew,rfl⟩,rfl⟩ ?_
   refine wpQuiet_nil ?_
   intro KK hKK
   try rw[if_pos (by rfl)]
   go_wp2_with fail
   refine hKK _ _ ⟨⟨(w2.alloc (.cells (tmC ⟨x.t,0,0⟩).toArray 104)).drew,HT6.out⟩,rfl⟩ (fun y=>∃z:Calm.OnB w.heap.size w2,y=z.1) (fun _ h=>h) ⟨⟨(w2.alloc (.cells (tmC ⟨x.t,0,0⟩).toArray 104)).drew,HT6.out⟩,rfl⟩ ?_
   refine wpQuiet_nil ?_
   intro KK hKK
   try rw[if_pos (by rfl)]
   refine zgD (w:=(w2.alloc (.cells (tmC ⟨x.t,0,0⟩).toArray 104)).drew) (.tmp 31) (.tmp 35) _ rfl Tryz.underlying22 B (.slice AT ts.length cT) ts rfl HO6.out _ 1 ⟨x.t,0,0⟩ rfl HCE.out (by omega) HB6.out ?_
   intro v7 w7 ho7 hg7'
   have hg7:=(aJ (w2.alloc (.cells (tmC ⟨x.t,0,0⟩).toArray 104)) _).trans hg7'
   obtain⟨A7,c7,hv7,_,_⟩:=aM ho7
   rw[show(ts++[(⟨x.t,0,0⟩:Gm.Tm)]).length=ts.length+1 by simp]at hv7
   subst hv7
   have hW7:=(HW2.out.alloc (.cells (tmC ⟨x.t,0,0⟩).toArray 104)).tm_put ho7 hg7
   have HW7:=aA hW7
   obtain⟨k7,hf7,hR7⟩:=hW7.at 0
   simp only[wC,List.getElem?_toArray,List.getElem?_cons_zero]at k7
   have hK7:=(KpT.below ((Below.refl _ w2).alloc (Nat.le_refl _) (.cells (tmC ⟨x.t,0,0⟩).toArray 104))).trans (KpT.own (HW2.out.alloc (.cells (tmC ⟨x.t,0,0⟩).toArray 104)).t hg7)
   have HK7:=aA hK7
   have HT7:Hid (w7.heap[w.heap.size]?=w2.heap[w.heap.size]?):=aA ((hK7 _ _ _ HR2r.out (by decide) (by decide)).trans HR2r.out.symm)
   have HB7:=aA ((HB26.out.alloc (Nat.le_trans hB HB2.out.size) (.cells (tmC ⟨x.t,0,0⟩).toArray 104)).grown hg7 (by have:=HB2.out.size;simp;omega) (fun k e=>(aH HW2.out.t e).1))
   clear ho7 hg7 hg7' hW7 hK7
   go_wp2_with fail
   refine hKK _ _ ⟨⟨w7,HT7.out⟩,rfl⟩ (fun y=>∃z:Calm.OnB w.heap.size w2,y=z.1) (fun _ h=>h) ⟨⟨w7,HT7.out⟩,rfl⟩ ?_
   repeat (go_big_quiet_step (fail))
   refine wpQuiet_nil ?_
   intro KK hKK
   try rw[if_pos (by rfl)]
   go_wp2_with fail
   have HW8:=aA (HW7.out.set 0 (.slice A7 (ts.length+1) c7))
   have HK8:=aA (HK7.out.trans (KpT.set HW7.out 0 (.slice A7 (ts.length+1) c7)))
   have HB8:=aA (HB7.out.setCell (p:=⟨R,0,none⟩) HW7.out.hR (.slice A7 (ts.length+1) c7))
   have HT8:Hid ((w7.setCell ⟨R,0,none⟩ (.slice A7 (ts.length+1) c7)).heap[w.heap.size]?=w2.heap[w.heap.size]?):=aA ((HK8.out _ _ _ HR2r.out (by decide) (by decide)).trans HR2r.out.symm)
   refine hKK _ _ ⟨⟨_,HT8.out⟩,rfl⟩ (fun y=>∃z:Calm.OnB w.heap.size w2,y=z.1) (fun _ h=>h) ⟨⟨_,HT8.out⟩,rfl⟩ ?_
   refine wpQuiet_nil ?_
   obtain⟨k8,_,hR8⟩:=HW8.out.at 0
   simp only[wC,List.setIfInBounds_toArray,List.set_cons_zero,List.getElem?_toArray,List.getElem?_cons_zero]at k8
   clear k7 hf7
   go_wp2
   go_ret
   refine⟨by simp;exact HE.out.2.1,⟨_,_,_,by rw[←HE.out.1];exact HW8.out⟩,HB8.out,(KpT.below HB2.out).trans HK8.out⟩
  ·intro KK hKK
   rw[if_pos (by rfl)]
   go_wp2_with fail
   refine hKK _ _ ⟨⟨(w2.alloc (.cells (tmC ⟨x.t,0,0⟩).toArray 104)).drew,HT6.out⟩,rfl⟩ (fun y=>∃z:Calm.OnB w.heap.size w2,y=z.1) (fun _ h=>h) ⟨⟨(w2.alloc (.cells (tmC ⟨x.t,0,0⟩).toArray 104)).drew,HT6.out⟩,rfl⟩ ?_
   refine wpQuiet_nil ?_
   intro KK hKK
   try rw[if_pos (by rfl)]
   go_wp2_with fail
   refine hKK _ _ ⟨⟨(w2.alloc (.cells (tmC ⟨x.t,0,0⟩).toArray 104)).drew,HT6.out⟩,rfl⟩ (fun y=>∃z:Calm.OnB w.heap.size w2,y=z.1) (fun _ h=>h) ⟨⟨(w2.alloc (.cells (tmC ⟨x.t,0,0⟩).toArray 104)).drew,HT6.out⟩,rfl⟩ ?_
   refine wpQuiet_nil ?_
   intro KK hKK
   try rw[if_pos (by rfl)]
   refine zgD (w:=(w2.alloc (.cells (tmC ⟨x.t,0,0⟩).toArray 104)).drew) (.tmp 31) (.tmp 35) _ rfl Tryz.underlying22 B (.slice AT ts.length cT) ts rfl HO6.out _ 1 ⟨x.t,0,0⟩ rfl HCE.out (by omega) HB6.out ?_
   intro v7 w7 ho7 hg7'
   have hg7:=(aJ (w2.alloc (.cells (tmC ⟨x.t,0,0⟩).toArray 104)) _).trans hg7'
   obtain⟨A7,c7,hv7,_,_⟩:=aM ho7
   rw[show(ts++[(⟨x.t,0,0⟩:Gm.Tm)]).length=ts.length+1 by simp]at hv7
   subst hv7
   have hW7:=(HW2.out.alloc (.cells (tmC ⟨x.t,0,0⟩).toArray 104)).tm_put ho7 hg7
   have HW7:=aA hW7
   obtain⟨k7,hf7,hR7⟩:=hW7.at 0
   simp only[wC,List.getElem?_toArray,List.getElem?_cons_zero]at k7
   have hK7:=(KpT.below ((Below.refl _ w2).alloc (Nat.le_refl _) (.cells (tmC ⟨x.t,0,0⟩).toArray 104))).trans (KpT.own (HW2.out.alloc (.cells (tmC ⟨x.t,0,0⟩).toArray 104)).t hg7)
   have HK7:=aA hK7
   have HT7:Hid (w7.heap[w.heap.size]?=w2.heap[w.heap.size]?):=aA ((hK7 _ _ _ HR2r.out (by decide) (by decide)).trans HR2r.out.symm)
   have HB7:=aA ((HB26.out.alloc (Nat.le_trans hB HB2.out.size) (.cells (tmC ⟨x.t,0,0⟩).toArray 104)).grown hg7 (by have:=HB2.out.size;simp;omega) (fun k e=>(aH HW2.out.t e).1))
   clear ho7 hg7 hg7' hW7 hK7
   go_wp2_with fail
   refine hKK _ _ ⟨⟨w7,HT7.out⟩,rfl⟩ (fun y=>∃z:Calm.OnB w.heap.size w2,y=z.1) (fun _ h=>h) ⟨⟨w7,HT7.out⟩,rfl⟩ ?_
   repeat (go_big_quiet_step (fail))
   refine wpQuiet_nil ?_
   intro KK hKK
   try rw[if_pos (by rfl)]
   go_wp2_with fail
   have HW8:=aA (HW7.out.set 0 (.slice A7 (ts.length+1) c7))
   have HK8:=aA (HK7.out.trans (KpT.set HW7.out 0 (.slice A7 (ts.length+1) c7)))
   have HB8:=aA (HB7.out.setCell (p:=⟨R,0,none⟩) HW7.out.hR (.slice A7 (ts.length+1) c7))
   have HT8:Hid ((w7.setCell ⟨R,0,none⟩ (.slice A7 (ts.length+1) c7)).heap[w.heap.size]?=w2.heap[w.heap.size]?):=aA ((HK8.out _ _ _ HR2r.out (by decide) (by decide)).trans HR2r.out.symm)
   refine hKK _ _ ⟨⟨_,HT8.out⟩,rfl⟩ (fun y=>∃z:Calm.OnB w.heap.size w2,y=z.1) (fun _ h=>h) ⟨⟨_,HT8.out⟩,rfl⟩ ?_
   refine wpQuiet_nil ?_
   obtain⟨k8,_,hR8⟩:=HW8.out.at 0
   simp only[wC,List.setIfInBounds_toArray,List.set_cons_zero,List.getElem?_toArray,List.getElem?_cons_zero]at k8
   clear k7 hf7
   go_wp2
   go_ret
   refine⟨by simp;exact HE.out.2.1,⟨_,_,_,by rw[←HE.out.1];exact HW8.out⟩,HB8.out,(KpT.below HB2.out).trans HK8.out⟩
end Go.Proofs.YtabmfpgpkbndeaaGreat
namespace Go.Proofs.YtabmfpgpkbndeaaGreat
set_option maxRecDepth 100000
set_option maxHeartbeats 40000000
namespace Sh
theorem getD_at {α:Type} (l:List α) (j:Nat) (d:α) (h:j<l.length):l.getD j d=l[j]:=by
 rw[List.getD_eq_getElem?_getD,List.getElem?_eq_getElem h];rfl
def key (x:Tok):Int×List Int:=(x.k,x.t)
end Sh
end Go.Proofs.YtabmfpgpkbndeaaGreat
namespace Go.Proofs.YtabmfpgpkbndeaaGreat
set_option maxRecDepth 100000
set_option maxHeartbeats 40000000
open Go.RowKit
theorem Gm.put_lt {ts ts':List Gm.Tm} {x:Tok} {n:Int} (h:Gm.put ts x=.ok (ts',n)):∃i:Nat,n=(i:Int)∧i<ts'.length:=by
 unfold Gm.put at h
 by_cases h0:0≤Gm.find (Gm.names ts) x.t
 ·rw[if_pos h0]at h
  injection h with h
  have h1:=congrArg Prod.fst h
  have h2:=congrArg Prod.snd h
  simp only at h1 h2
  have h3:=Gm.find_lt (Gm.names ts) x.t
  have h4:(Gm.names ts).length=ts.length:=by simp[Gm.names]
  refine⟨n.toNat,by omega,?_⟩
  rw[←h1]
  omega
 ·rw[if_neg h0]at h
  by_cases h24:ts.length=24
  ·rw[if_pos h24]at h;cases h
  ·rw[if_neg h24]at h
   injection h with h
   have h1:=congrArg Prod.fst h
   have h2:=congrArg Prod.snd h
   simp only at h1 h2
   refine⟨ts.length,h2.symm,?_⟩
   rw[←h1]
   simp
theorem zhu (L:List Int) (B N R:Nat) (ts ts':List Gm.Tm) (ns:List (List Int)) (rs:List Gm.Rl) (lv n k:Int) (x:Tok) (w:World) (hw:Wk w B N R ts ns rs lv) (hf:Gm.Fit ⟨ts,ns,rs,0⟩) (hx:K.Tx x.t) (hnm:Gm.named x.t=true) (hN:N≤w.heap.size) (hB:B≤w.heap.size) (hk:k=4∨k=5)
  (hlo:¬(0≤Gm.find (Gm.names ts) x.t∧0<(ts.map Gm.Tm.lv).getD (Gm.find (Gm.names ts) x.t).toNat 0)) (hp:Gm.put ts x=.ok (ts',n)) (h24:ts.length≤24) :
  Calls Tryz.prog 106 #[.pointer (some ⟨R,0,none⟩),.int .i64 k,bO L x] w fun e w'=>e=.returned (.tuple #[])∧Wk w' B N R (ts'.modify n.toNat fun t=>⟨t.nm,lv,k-3⟩) ns rs lv∧Below B w w'∧KpT w w':=by
 have HW:=aA hw
 obtain⟨i,hi,hil⟩:=Gm.put_lt hp
 subst hi
 have HTE:=aA (fun(y:World) (h:Wk y B N R ts ns rs lv) (hy:N≤y.heap.size) (hz:B≤y.heap.size)=>zdm L B N R ts ts' ns rs lv i x y h hf hx hy hz hp h24)
 have HNM:=aA (fun(y:World)=>zaw x.t hx y)
 rw[hnm]at HNM
 obtain⟨vT,vN,vR,h⟩:=hw
 have HH:=aA h
 obtain⟨AT,cT,rfl,hc1,_⟩:=aM h.t
 obtain⟨AN,cN,rfl,_,_⟩:=aM h.n
 have hr3:∃AR cR,vR=.slice AR rs.length cR:=by obtain⟨qs,_,h2,_⟩:=id h.r;obtain⟨A,c,e,_⟩:=aM h2;exact⟨A,c,e⟩
 obtain⟨AR,cR,rfl⟩:=hr3
 obtain⟨k0,hf0,hRs⟩:=h.at 0
 have k1:=(h.at 1).1
 have k2:=(h.at 2).1
 have k3:=(h.at 3).1
 simp only[wC,List.getElem?_toArray,List.getElem?_cons_zero,List.getElem?_cons_succ]at k0 k1 k2 k3
 unfold bO
 obtain⟨w1,hw1⟩:∃y,y=w.alloc (.cells #[.string (K.str x.t),.complex .f64 (Fl.fl (Pl.pos (L.take x.o)).1) (Fl.fl (Pl.pos (L.take x.o)).2)] 112):=⟨_,rfl⟩
 have HB1:Hid (Below w.heap.size w w1):=aA (by rw[hw1];exact(Below.refl _ _).alloc (Nat.le_refl _) _)
 have HR1:Hid (w1.heap[w.heap.size]?=some (.cells #[.string (K.str x.t),.complex .f64 (Fl.fl (Pl.pos (L.take x.o)).1) (Fl.fl (Pl.pos (L.take x.o)).2)] 112 (0,0))):=aA (by rw[hw1];exact heap_alloc_new w _)
 have HT:=aA (fun(y:World) (hb:Below w1.heap.size w1 y)=>zbh (.agg #[.slice AT ts.length cT,.slice AN ns.length cN,.slice AR rs.length cR,.int .i64 0]) ⟨ts,ns,rs,0⟩ x.t w.heap.size y ((h.rd hN 0).below (HB1.out.trans (hb.mono HB1.out.size)) (Nat.le_refl _)) hf hx (Nat.le_trans HB1.out.size hb.size))
 unfold Gm.term at HT
 have HLO:=aA hlo
 have HLT:=aA hil
 clear hp hf hlo
 rcases hk with rfl|rfl
 ·go_enter Tryz.func106,Tryz.ntmps106
  go_wp2_with fail
  refine(HNM.out _).mono ?_;rintro _ _ ⟨rfl,rfl⟩
  go_wp2_with fail
  rw[←hw1]
  clear hw1
  have hk:=HB1.out
  have p0:=(hk.cell (p:=⟨R,0,none⟩) hRs).trans k0
  have p1:=(hk.cell (p:=⟨R,1,none⟩) hRs).trans k1
  have p2:=(hk.cell (p:=⟨R,2,none⟩) hRs).trans k2
  have p3:=(hk.cell (p:=⟨R,3,none⟩) hRs).trans k3
  have hR1:R<w1.heap.size:=Nat.lt_of_lt_of_le hRs hk.size
  have hb1:w.heap.size<w1.heap.size:=(Array.getElem?_eq_some_iff.1 HR1.out).1
  have t0:w1.cell? ⟨w.heap.size,0,none⟩=some (.string (K.str x.t)):=by rw[cell_of_row w1 _ 0 _ _ _ HR1.out];rfl
  have Q0:=fun y:Calm.On w1.heap.size w1=>(y.2.cell (p:=⟨R,0,none⟩) hR1).trans p0
  have Q1:=fun y:Calm.On w1.heap.size w1=>(y.2.cell (p:=⟨R,1,none⟩) hR1).trans p1
  have Q2:=fun y:Calm.On w1.heap.size w1=>(y.2.cell (p:=⟨R,2,none⟩) hR1).trans p2
  have Q3:=fun y:Calm.On w1.heap.size w1=>(y.2.cell (p:=⟨R,3,none⟩) hR1).trans p3
  have Q4:=fun y:Calm.On w1.heap.size w1=>(y.2.cell (p:=⟨w.heap.size,0,none⟩) hb1).trans t0
  clear hk
  refine CalmN.region_tree (fun x=>∃y:Calm.On w1.heap.size w1,x=y.1) (.one [0,1,2,3,4,5] 6 (.fin [7])) (by kernel_rfl) (by kernel_rfl) (fun _ _ d _ _ h=>by cases d <;> exact h) ⟨⟨w1.drew,aB (Below.refl _ _) 1⟩,rfl⟩ ?_
  simp only[CalmN.wpT,CalmN.wpSt,CalmN.pickOps,List.getElem?_toArray,List.getElem?_cons_zero,List.getElem?_cons_succ]
  repeat (go_big_quiet_step (fail))
  refine wpQuiet_nil ?_
  clear Q0 Q1 Q2 Q3 Q4 p0 p1 p2 p3 t0 k0 k1 k2 k3
  intro KK hKK
  rw[if_pos (by rfl)]
  go_wp2_with fail
  refine(HT.out w1.drew (aB (Below.refl _ _) 1)).mono ?_;rintro _ w2 ⟨rfl,hb2⟩
  have hb12:Below w1.heap.size w1 w2:=(aB (Below.refl w1.heap.size w1) 1).trans hb2
  have HB12:=aA hb12
  clear hb2
  go_wp2_with fail
  refine hKK _ _ ⟨⟨w2,hb12⟩,rfl⟩ (fun x=>∃y:Calm.On w1.heap.size w1,x=y.1) (fun _ h=>h) ⟨⟨w2,hb12⟩,rfl⟩ ?_
  repeat (go_big_quiet_step (fail))
  refine wpQuiet_nil ?_
  have HB2:=aA (HB1.out.trans (hb12.mono HB1.out.size))
  have HW2:=aA (HH.out.below HB2.out)
  have HR2:=aA ((hb12.block w.heap.size hb1).trans HR1.out)
  clear hb12 hKK
  have hsz2:=HB2.out.size
  obtain⟨m0,mf0,hR2⟩:=HW2.out.at 0
  simp only[wC,List.getElem?_toArray,List.getElem?_cons_zero]at m0
  have tr0:w2.cell? ⟨w.heap.size,0,none⟩=some (.string (K.str x.t)):=by rw[cell_of_row w2 _ 0 _ _ _ HR2.out];rfl
  have tr1:w2.cell? ⟨w.heap.size,1,none⟩=some (.complex .f64 (Fl.fl (Pl.pos (L.take x.o)).1) (Fl.fl (Pl.pos (L.take x.o)).2)):=by rw[cell_of_row w2 _ 1 _ _ _ HR2.out];rfl
  have HTE2:=aA (HTE.out w2 ⟨_,_,_,HW2.out⟩ (Nat.le_trans hN hsz2) (Nat.le_trans hB hsz2))
  unfold bO at HTE2
  by_cases h0:0≤Gm.find (Gm.names ts) x.t
  ·have hlt:=Gm.find_lt (Gm.names ts) x.t
   obtain⟨j,hj⟩:∃j:Nat,Gm.find (Gm.names ts) x.t=(j:Int):=⟨_,(Int.toNat_of_nonneg h0).symm⟩
   have hjl:j<ts.length:=by rw[hj]at hlt;simp[Gm.names]at hlt;omega
   obtain⟨gT,cc,e,_,_,kk,_⟩:=za4 HW2.out.t j hjl
   injection e with e1 e2 e3
   subst e1
   have hlo:¬(0<ts[j].lv):=by
    have h:=HLO.out
    rw[hj]at h
    intro q
    refine h ⟨by omega,?_⟩
    rw[show((j:Int)).toNat=j from rfl,Sh.getD_at _ _ _ (by simpa using hjl),List.getElem_map]
    exact q
   have hj0:(0:Int)≤(j:Int):=by omega
   have hjl2:(j:Int)<(ts.length:Int):=by omega
   have hgt:gT<w2.heap.size:=block_lt_of_cell (a:=⟨gT,_,none⟩) kk
   rw[hj]
   clear h0 hlt hj e2 e3 HLO HT
   generalize ts[j].lv=lvj at *
   go_wp2_with fail
   refine HTE2.out.mono ?_;rintro _ w3 ⟨rfl,hw3,hb3,hk3⟩
   obtain⟨vT3,vN3,vR3,h3⟩:=hw3
   have HW3:=aA h3
   have HB3:=aA ((HB2.out.mono hB).trans hb3)
   have HK3:=aA ((KpT.below HB2.out).trans hk3)
   obtain⟨g3,cc3,rfl,_,s1,s2,sf,hBg,hgs,cur3,hcur3⟩:=za4 h3.t i HLT.out
   have HCU:=aA hcur3
   obtain⟨n0,_,hR3⟩:=h3.at 0
   have n8:=(h3.at 8).1
   have n10:=(h3.at 10).1
   simp only[wC,List.getElem?_toArray,List.getElem?_cons_zero,List.getElem?_cons_succ]at n0 n8 n10
   have f1:=sf (i*3+1)
   have f2:=sf (i*3+2)
   have hi0:(0:Int)≤(i:Int):=by omega
   have hil2:(i:Int)<(ts'.length:Int):=by have:=HLT.out;omega
   clear h3 hb3 hk3 hcur3 sf
   go_wp2_with fail
   have N0:=fun y:Calm.OnB R w3=>(show y.1.cell? ⟨R,0,none⟩=some (.slice (some ⟨g3,0,none⟩) ts'.length cc3) by rw[cell_of_row y.1 _ 0 _ _ _ (y.2.trans HW3.out.b)];rfl)
   have N8:=fun y:Calm.OnB R w3=>(show y.1.cell? ⟨R,8,none⟩=some (.int .i64 lv) by rw[cell_of_row y.1 _ 8 _ _ _ (y.2.trans HW3.out.b)];rfl)
   refine CalmN.region_tree (fun y=>∃z:Calm.OnB R w3,y=z.1) (.one [0,1,2,3,4,5,6,7,8,9,10,11,12,13,14,15,16,17,18,19,20] 21 (.one [22,23] 24 (.fin []))) (by kernel_rfl) (by kernel_rfl) (fun _ _ d _ _ h=>by cases d <;> exact h) ⟨⟨w3.drew,rfl⟩,rfl⟩ ?_
   simp only[CalmN.wpT,CalmN.wpSt,CalmN.pickOps,List.getElem?_toArray,List.getElem?_cons_zero,List.getElem?_cons_succ]
   repeat (go_big_quiet_step (fail))
   refine wpQuiet_nil ?_
   clear N0 N8
   have hneR:R≠g3:=fun e=>by have hb:=HW3.out.b;have hcu':=HCU.out;rw[e]at hb;rw[hb]at hcu';injection hcu' with q;injection q with _ q;exact absurd q (by decide)
   have HR5:Hid ((w3.setCell ⟨g3,i*3+1,none⟩ (.int .i64 lv)).heap[R]?=w3.heap[R]?):=aA (Below.heap_setCell w3 ⟨g3,i*3+1,none⟩ (.int .i64 lv) R (by simp only;exact hneR))
   have HR6:Hid (((w3.setCell ⟨g3,i*3+1,none⟩ (.int .i64 lv)).setCell ⟨g3,i*3+2,none⟩ (.int .i64 1)).heap[R]?=w3.heap[R]?):=aA ((Below.heap_setCell _ ⟨g3,i*3+2,none⟩ (.int .i64 1) R (by simp only;exact hneR)).trans HR5.out)
   intro KK hKK
   try rw[if_pos (by rfl)]
   go_wp2_with fail
   refine hKK _ _ ⟨⟨World.drew (w3.setCell ⟨g3,i*3+1,none⟩ (.int .i64 lv)),HR5.out⟩,rfl⟩ (fun y=>∃z:Calm.OnB R w3,y=z.1) (fun _ h=>h) ⟨⟨World.drew (w3.setCell ⟨g3,i*3+1,none⟩ (.int .i64 lv)),HR5.out⟩,rfl⟩ ?_
   repeat (go_big_quiet_step (fail))
   refine wpQuiet_nil ?_
   intro KK hKK
   try rw[if_pos (by rfl)]
   go_wp2_with fail
   refine hKK _ _ ⟨⟨World.drew ((w3.setCell ⟨g3,i*3+1,none⟩ (.int .i64 lv)).setCell ⟨g3,i*3+2,none⟩ (.int .i64 1)),HR6.out⟩,rfl⟩ (fun y=>∃z:Calm.OnB R w3,y=z.1) (fun _ h=>h) ⟨⟨World.drew ((w3.setCell ⟨g3,i*3+1,none⟩ (.int .i64 lv)).setCell ⟨g3,i*3+2,none⟩ (.int .i64 1)),HR6.out⟩,rfl⟩ ?_
   refine wpQuiet_nil ?_
   go_wp2
   go_end0
   have ho:=HW3.out.t
   have u1:=World.ownsRow.stored ho (i*3+1) (.int .i64 lv)
   have u2:=World.ownsRow.stored u1.1 (i*3+2) (.int .i64 1)
   have hg:w3.grownBy ((w3.setCell ⟨g3,i*3+1,none⟩ (.int .i64 lv)).setCell ⟨g3,i*3+2,none⟩ (.int .i64 1)).drew (some g3):=(aD (aD (World.grownBy.refl _ _) _ _) _ _).trans (aJ _ _)
   have hOT:aX ((w3.setCell ⟨g3,i*3+1,none⟩ (.int .i64 lv)).setCell ⟨g3,i*3+2,none⟩ (.int .i64 1)) B (.slice (some ⟨g3,0,none⟩) ts'.length cc3) (ts'.modify i fun t=>⟨t.nm,lv,1⟩):=by
    unfold aX
    rw[List.length_modify,←zcT ts' i HLT.out]
    exact u2.1
   exact⟨rfl,⟨_,_,_,HW3.out.tm_put hOT hg⟩,HB3.out.grown hg (Nat.le_trans hB HB3.out.size) (fun k e=>by injection e with e;omega),HK3.out.trans (KpT.cells hg HCU.out (.inr rfl))⟩
  ·have h0':Gm.find (Gm.names ts) x.t<0:=by omega
   generalize Gm.find (Gm.names ts) x.t=z at *
   go_wp2_with fail
   refine HTE2.out.mono ?_;rintro _ w3 ⟨rfl,hw3,hb3,hk3⟩
   obtain⟨vT3,vN3,vR3,h3⟩:=hw3
   have HW3:=aA h3
   have HB3:=aA ((HB2.out.mono hB).trans hb3)
   have HK3:=aA ((KpT.below HB2.out).trans hk3)
   obtain⟨g3,cc3,rfl,_,s1,s2,sf,hBg,hgs,cur3,hcur3⟩:=za4 h3.t i HLT.out
   have HCU:=aA hcur3
   obtain⟨n0,_,hR3⟩:=h3.at 0
   have n8:=(h3.at 8).1
   have n10:=(h3.at 10).1
   simp only[wC,List.getElem?_toArray,List.getElem?_cons_zero,List.getElem?_cons_succ]at n0 n8 n10
   have f1:=sf (i*3+1)
   have f2:=sf (i*3+2)
   have hi0:(0:Int)≤(i:Int):=by omega
   have hil2:(i:Int)<(ts'.length:Int):=by have:=HLT.out;omega
   clear h3 hb3 hk3 hcur3 sf
   go_wp2_with fail
   have N0:=fun y:Calm.OnB R w3=>(show y.1.cell? ⟨R,0,none⟩=some (.slice (some ⟨g3,0,none⟩) ts'.length cc3) by rw[cell_of_row y.1 _ 0 _ _ _ (y.2.trans HW3.out.b)];rfl)
   have N8:=fun y:Calm.OnB R w3=>(show y.1.cell? ⟨R,8,none⟩=some (.int .i64 lv) by rw[cell_of_row y.1 _ 8 _ _ _ (y.2.trans HW3.out.b)];rfl)
   refine CalmN.region_tree (fun y=>∃z:Calm.OnB R w3,y=z.1) (.one [0,1,2,3,4,5,6,7,8,9,10,11,12,13,14,15,16,17,18,19,20] 21 (.one [22,23] 24 (.fin []))) (by kernel_rfl) (by kernel_rfl) (fun _ _ d _ _ h=>by cases d <;> exact h) ⟨⟨w3.drew,rfl⟩,rfl⟩ ?_
   simp only[CalmN.wpT,CalmN.wpSt,CalmN.pickOps,List.getElem?_toArray,List.getElem?_cons_zero,List.getElem?_cons_succ]
   repeat (go_big_quiet_step (fail))
   refine wpQuiet_nil ?_
   clear N0 N8
   have hneR:R≠g3:=fun e=>by have hb:=HW3.out.b;have hcu':=HCU.out;rw[e]at hb;rw[hb]at hcu';injection hcu' with q;injection q with _ q;exact absurd q (by decide)
   have HR5:Hid ((w3.setCell ⟨g3,i*3+1,none⟩ (.int .i64 lv)).heap[R]?=w3.heap[R]?):=aA (Below.heap_setCell w3 ⟨g3,i*3+1,none⟩ (.int .i64 lv) R (by simp only;exact hneR))
   have HR6:Hid (((w3.setCell ⟨g3,i*3+1,none⟩ (.int .i64 lv)).setCell ⟨g3,i*3+2,none⟩ (.int .i64 1)).heap[R]?=w3.heap[R]?):=aA ((Below.heap_setCell _ ⟨g3,i*3+2,none⟩ (.int .i64 1) R (by simp only;exact hneR)).trans HR5.out)
   intro KK hKK
   try rw[if_pos (by rfl)]
   go_wp2_with fail
   refine hKK _ _ ⟨⟨World.drew (w3.setCell ⟨g3,i*3+1,none⟩ (.int .i64 lv)),HR5.out⟩,rfl⟩ (fun y=>∃z:Calm.OnB R w3,y=z.1) (fun _ h=>h) ⟨⟨World.drew (w3.setCell ⟨g3,i*3+1,none⟩ (.int .i64 lv)),HR5.out⟩,rfl⟩ ?_
   repeat (go_big_quiet_step (fail))
   refine wpQuiet_nil ?_
   intro KK hKK
   try rw[if_pos (by rfl)]
   go_wp2_with fail
   refine hKK _ _ ⟨⟨World.drew ((w3.setCell ⟨g3,i*3+1,none⟩ (.int .i64 lv)).setCell ⟨g3,i*3+2,none⟩ (.int .i64 1)),HR6.out⟩,rfl⟩ (fun y=>∃z:Calm.OnB R w3,y=z.1) (fun _ h=>h) ⟨⟨World.drew ((w3.setCell ⟨g3,i*3+1,none⟩ (.int .i64 lv)).setCell ⟨g3,i*3+2,none⟩ (.int .i64 1)),HR6.out⟩,rfl⟩ ?_
   refine wpQuiet_nil ?_
   go_wp2
   go_end0
   have ho:=HW3.out.t
   have u1:=World.ownsRow.stored ho (i*3+1) (.int .i64 lv)
   have u2:=World.ownsRow.stored u1.1 (i*3+2) (.int .i64 1)
   have hg:w3.grownBy ((w3.setCell ⟨g3,i*3+1,none⟩ (.int .i64 lv)).setCell ⟨g3,i*3+2,none⟩ (.int .i64 1)).drew (some g3):=(aD (aD (World.grownBy.refl _ _) _ _) _ _).trans (aJ _ _)
   have hOT:aX ((w3.setCell ⟨g3,i*3+1,none⟩ (.int .i64 lv)).setCell ⟨g3,i*3+2,none⟩ (.int .i64 1)) B (.slice (some ⟨g3,0,none⟩) ts'.length cc3) (ts'.modify i fun t=>⟨t.nm,lv,1⟩):=by
    unfold aX
    rw[List.length_modify,←zcT ts' i HLT.out]
    exact u2.1
   exact⟨rfl,⟨_,_,_,HW3.out.tm_put hOT hg⟩,HB3.out.grown hg (Nat.le_trans hB HB3.out.size) (fun k e=>by injection e with e;omega),HK3.out.trans (KpT.cells hg HCU.out (.inr rfl))⟩
 ·go_enter Tryz.func106,Tryz.ntmps106
  go_wp2_with fail
  refine(HNM.out _).mono ?_;rintro _ _ ⟨rfl,rfl⟩
  go_wp2_with fail
  rw[←hw1]
  clear hw1
  have hk:=HB1.out
  have p0:=(hk.cell (p:=⟨R,0,none⟩) hRs).trans k0
  have p1:=(hk.cell (p:=⟨R,1,none⟩) hRs).trans k1
  have p2:=(hk.cell (p:=⟨R,2,none⟩) hRs).trans k2
  have p3:=(hk.cell (p:=⟨R,3,none⟩) hRs).trans k3
  have hR1:R<w1.heap.size:=Nat.lt_of_lt_of_le hRs hk.size
  have hb1:w.heap.size<w1.heap.size:=(Array.getElem?_eq_some_iff.1 HR1.out).1
  have t0:w1.cell? ⟨w.heap.size,0,none⟩=some (.string (K.str x.t)):=by rw[cell_of_row w1 _ 0 _ _ _ HR1.out];rfl
  have Q0:=fun y:Calm.On w1.heap.size w1=>(y.2.cell (p:=⟨R,0,none⟩) hR1).trans p0
  have Q1:=fun y:Calm.On w1.heap.size w1=>(y.2.cell (p:=⟨R,1,none⟩) hR1).trans p1
  have Q2:=fun y:Calm.On w1.heap.size w1=>(y.2.cell (p:=⟨R,2,none⟩) hR1).trans p2
  have Q3:=fun y:Calm.On w1.heap.size w1=>(y.2.cell (p:=⟨R,3,none⟩) hR1).trans p3
  have Q4:=fun y:Calm.On w1.heap.size w1=>(y.2.cell (p:=⟨w.heap.size,0,none⟩) hb1).trans t0
  clear hk
  refine CalmN.region_tree (fun x=>∃y:Calm.On w1.heap.size w1,x=y.1) (.one [0,1,2,3,4,5] 6 (.fin [7])) (by kernel_rfl) (by kernel_rfl) (fun _ _ d _ _ h=>by cases d <;> exact h) ⟨⟨w1.drew,aB (Below.refl _ _) 1⟩,rfl⟩ ?_
  simp only[CalmN.wpT,CalmN.wpSt,CalmN.pickOps,List.getElem?_toArray,List.getElem?_cons_zero,List.getElem?_cons_succ]
  repeat (go_big_quiet_step (fail))
  refine wpQuiet_nil ?_
  clear Q0 Q1 Q2 Q3 Q4 p0 p1 p2 p3 t0 k0 k1 k2 k3
  intro KK hKK
  rw[if_pos (by rfl)]
  go_wp2_with fail
  refine(HT.out w1.drew (aB (Below.refl _ _) 1)).mono ?_;rintro _ w2 ⟨rfl,hb2⟩
  have hb12:Below w1.heap.size w1 w2:=(aB (Below.refl w1.heap.size w1) 1).trans hb2
  have HB12:=aA hb12
  clear hb2
  go_wp2_with fail
  refine hKK _ _ ⟨⟨w2,hb12⟩,rfl⟩ (fun x=>∃y:Calm.On w1.heap.size w1,x=y.1) (fun _ h=>h) ⟨⟨w2,hb12⟩,rfl⟩ ?_
  repeat (go_big_quiet_step (fail))
  refine wpQuiet_nil ?_
  have HB2:=aA (HB1.out.trans (hb12.mono HB1.out.size))
  have HW2:=aA (HH.out.below HB2.out)
  have HR2:=aA ((hb12.block w.heap.size hb1).trans HR1.out)
  clear hb12 hKK
  have hsz2:=HB2.out.size
  obtain⟨m0,mf0,hR2⟩:=HW2.out.at 0
  simp only[wC,List.getElem?_toArray,List.getElem?_cons_zero]at m0
  have tr0:w2.cell? ⟨w.heap.size,0,none⟩=some (.string (K.str x.t)):=by rw[cell_of_row w2 _ 0 _ _ _ HR2.out];rfl
  have tr1:w2.cell? ⟨w.heap.size,1,none⟩=some (.complex .f64 (Fl.fl (Pl.pos (L.take x.o)).1) (Fl.fl (Pl.pos (L.take x.o)).2)):=by rw[cell_of_row w2 _ 1 _ _ _ HR2.out];rfl
  have HTE2:=aA (HTE.out w2 ⟨_,_,_,HW2.out⟩ (Nat.le_trans hN hsz2) (Nat.le_trans hB hsz2))
  unfold bO at HTE2
  by_cases h0:0≤Gm.find (Gm.names ts) x.t
  ·have hlt:=Gm.find_lt (Gm.names ts) x.t
   obtain⟨j,hj⟩:∃j:Nat,Gm.find (Gm.names ts) x.t=(j:Int):=⟨_,(Int.toNat_of_nonneg h0).symm⟩
   have hjl:j<ts.length:=by rw[hj]at hlt;simp[Gm.names]at hlt;omega
   obtain⟨gT,cc,e,_,_,kk,_⟩:=za4 HW2.out.t j hjl
   injection e with e1 e2 e3
   subst e1
   have hlo:¬(0<ts[j].lv):=by
    have h:=HLO.out
    rw[hj]at h
    intro q
    refine h ⟨by omega,?_⟩
    rw[show((j:Int)).toNat=j from rfl,Sh.getD_at _ _ _ (by simpa using hjl),List.getElem_map]
    exact q
   have hj0:(0:Int)≤(j:Int):=by omega
   have hjl2:(j:Int)<(ts.length:Int):=by omega
   have hgt:gT<w2.heap.size:=block_lt_of_cell (a:=⟨gT,_,none⟩) kk
   rw[hj]
   clear h0 hlt hj e2 e3 HLO HT
   generalize ts[j].lv=lvj at *
   go_wp2_with fail
   refine HTE2.out.mono ?_;rintro _ w3 ⟨rfl,hw3,hb3,hk3⟩
   obtain⟨vT3,vN3,vR3,h3⟩:=hw3
   have HW3:=aA h3
   have HB3:=aA ((HB2.out.mono hB).trans hb3)
   have HK3:=aA ((KpT.below HB2.out).trans hk3)
   obtain⟨g3,cc3,rfl,_,s1,s2,sf,hBg,hgs,cur3,hcur3⟩:=za4 h3.t i HLT.out
   have HCU:=aA hcur3
   obtain⟨n0,_,hR3⟩:=h3.at 0
   have n8:=(h3.at 8).1
   have n10:=(h3.at 10).1
   simp only[wC,List.getElem?_toArray,List.getElem?_cons_zero,List.getElem?_cons_succ]at n0 n8 n10
   have f1:=sf (i*3+1)
   have f2:=sf (i*3+2)
   have hi0:(0:Int)≤(i:Int):=by omega
   have hil2:(i:Int)<(ts'.length:Int):=by have:=HLT.out;omega
   clear h3 hb3 hk3 hcur3 sf
   go_wp2_with fail
   have N0:=fun y:Calm.OnB R w3=>(show y.1.cell? ⟨R,0,none⟩=some (.slice (some ⟨g3,0,none⟩) ts'.length cc3) by rw[cell_of_row y.1 _ 0 _ _ _ (y.2.trans HW3.out.b)];rfl)
   have N8:=fun y:Calm.OnB R w3=>(show y.1.cell? ⟨R,8,none⟩=some (.int .i64 lv) by rw[cell_of_row y.1 _ 8 _ _ _ (y.2.trans HW3.out.b)];rfl)
   refine CalmN.region_tree (fun y=>∃z:Calm.OnB R w3,y=z.1) (.one [0,1,2,3,4,5,6,7,8,9,10,11,12,13,14,15,16,17,18,19,20] 21 (.one [22,23] 24 (.fin []))) (by kernel_rfl) (by kernel_rfl) (fun _ _ d _ _ h=>by cases d <;> exact h) ⟨⟨w3.drew,rfl⟩,rfl⟩ ?_
   simp only[CalmN.wpT,CalmN.wpSt,CalmN.pickOps,List.getElem?_toArray,List.getElem?_cons_zero,List.getElem?_cons_succ]
   repeat (go_big_quiet_step (fail))
   refine wpQuiet_nil ?_
   clear N0 N8
   have hneR:R≠g3:=fun e=>by have hb:=HW3.out.b;have hcu':=HCU.out;rw[e]at hb;rw[hb]at hcu';injection hcu' with q;injection q with _ q;exact absurd q (by decide)
   have HR5:Hid ((w3.setCell ⟨g3,i*3+1,none⟩ (.int .i64 lv)).heap[R]?=w3.heap[R]?):=aA (Below.heap_setCell w3 ⟨g3,i*3+1,none⟩ (.int .i64 lv) R (by simp only;exact hneR))
   have HR6:Hid (((w3.setCell ⟨g3,i*3+1,none⟩ (.int .i64 lv)).setCell ⟨g3,i*3+2,none⟩ (.int .i64 2)).heap[R]?=w3.heap[R]?):=aA ((Below.heap_setCell _ ⟨g3,i*3+2,none⟩ (.int .i64 2) R (by simp only;exact hneR)).trans HR5.out)
   intro KK hKK
   try rw[if_pos (by rfl)]
   go_wp2_with fail
   refine hKK _ _ ⟨⟨World.drew (w3.setCell ⟨g3,i*3+1,none⟩ (.int .i64 lv)),HR5.out⟩,rfl⟩ (fun y=>∃z:Calm.OnB R w3,y=z.1) (fun _ h=>h) ⟨⟨World.drew (w3.setCell ⟨g3,i*3+1,none⟩ (.int .i64 lv)),HR5.out⟩,rfl⟩ ?_
   repeat (go_big_quiet_step (fail))
   refine wpQuiet_nil ?_
   intro KK hKK
   try rw[if_pos (by rfl)]
   go_wp2_with fail
   refine hKK _ _ ⟨⟨World.drew ((w3.setCell ⟨g3,i*3+1,none⟩ (.int .i64 lv)).setCell ⟨g3,i*3+2,none⟩ (.int .i64 2)),HR6.out⟩,rfl⟩ (fun y=>∃z:Calm.OnB R w3,y=z.1) (fun _ h=>h) ⟨⟨World.drew ((w3.setCell ⟨g3,i*3+1,none⟩ (.int .i64 lv)).setCell ⟨g3,i*3+2,none⟩ (.int .i64 2)),HR6.out⟩,rfl⟩ ?_
   refine wpQuiet_nil ?_
   go_wp2
   go_end0
   have ho:=HW3.out.t
   have u1:=World.ownsRow.stored ho (i*3+1) (.int .i64 lv)
   have u2:=World.ownsRow.stored u1.1 (i*3+2) (.int .i64 2)
   have hg:w3.grownBy ((w3.setCell ⟨g3,i*3+1,none⟩ (.int .i64 lv)).setCell ⟨g3,i*3+2,none⟩ (.int .i64 2)).drew (some g3):=(aD (aD (World.grownBy.refl _ _) _ _) _ _).trans (aJ _ _)
   have hOT:aX ((w3.setCell ⟨g3,i*3+1,none⟩ (.int .i64 lv)).setCell ⟨g3,i*3+2,none⟩ (.int .i64 2)) B (.slice (some ⟨g3,0,none⟩) ts'.length cc3) (ts'.modify i fun t=>⟨t.nm,lv,2⟩):=by
    unfold aX
    rw[List.length_modify,←zcT ts' i HLT.out]
    exact u2.1
   exact⟨rfl,⟨_,_,_,HW3.out.tm_put hOT hg⟩,HB3.out.grown hg (Nat.le_trans hB HB3.out.size) (fun k e=>by injection e with e;omega),HK3.out.trans (KpT.cells hg HCU.out (.inr rfl))⟩
  ·have h0':Gm.find (Gm.names ts) x.t<0:=by omega
   generalize Gm.find (Gm.names ts) x.t=z at *
   go_wp2_with fail
   refine HTE2.out.mono ?_;rintro _ w3 ⟨rfl,hw3,hb3,hk3⟩
   obtain⟨vT3,vN3,vR3,h3⟩:=hw3
   have HW3:=aA h3
   have HB3:=aA ((HB2.out.mono hB).trans hb3)
   have HK3:=aA ((KpT.below HB2.out).trans hk3)
   obtain⟨g3,cc3,rfl,_,s1,s2,sf,hBg,hgs,cur3,hcur3⟩:=za4 h3.t i HLT.out
   have HCU:=aA hcur3
   obtain⟨n0,_,hR3⟩:=h3.at 0
   have n8:=(h3.at 8).1
   have n10:=(h3.at 10).1
   simp only[wC,List.getElem?_toArray,List.getElem?_cons_zero,List.getElem?_cons_succ]at n0 n8 n10
   have f1:=sf (i*3+1)
   have f2:=sf (i*3+2)
   have hi0:(0:Int)≤(i:Int):=by omega
   have hil2:(i:Int)<(ts'.length:Int):=by have:=HLT.out;omega
   clear h3 hb3 hk3 hcur3 sf
   go_wp2_with fail
   have N0:=fun y:Calm.OnB R w3=>(show y.1.cell? ⟨R,0,none⟩=some (.slice (some ⟨g3,0,none⟩) ts'.length cc3) by rw[cell_of_row y.1 _ 0 _ _ _ (y.2.trans HW3.out.b)];rfl)
   have N8:=fun y:Calm.OnB R w3=>(show y.1.cell? ⟨R,8,none⟩=some (.int .i64 lv) by rw[cell_of_row y.1 _ 8 _ _ _ (y.2.trans HW3.out.b)];rfl)
   refine CalmN.region_tree (fun y=>∃z:Calm.OnB R w3,y=z.1) (.one [0,1,2,3,4,5,6,7,8,9,10,11,12,13,14,15,16,17,18,19,20] 21 (.one [22,23] 24 (.fin []))) (by kernel_rfl) (by kernel_rfl) (fun _ _ d _ _ h=>by cases d <;> exact h) ⟨⟨w3.drew,rfl⟩,rfl⟩ ?_
   simp only[CalmN.wpT,CalmN.wpSt,CalmN.pickOps,List.getElem?_toArray,List.getElem?_cons_zero,List.getElem?_cons_succ]
   repeat (go_big_quiet_step (fail))
   refine wpQuiet_nil ?_
   clear N0 N8
   have hneR:R≠g3:=fun e=>by have hb:=HW3.out.b;have hcu':=HCU.out;rw[e]at hb;rw[hb]at hcu';injection hcu' with q;injection q with _ q;exact absurd q (by decide)
   have HR5:Hid ((w3.setCell ⟨g3,i*3+1,none⟩ (.int .i64 lv)).heap[R]?=w3.heap[R]?):=aA (Below.heap_setCell w3 ⟨g3,i*3+1,none⟩ (.int .i64 lv) R (by simp only;exact hneR))
   have HR6:Hid (((w3.setCell ⟨g3,i*3+1,none⟩ (.int .i64 lv)).setCell ⟨g3,i*3+2,none⟩ (.int .i64 2)).heap[R]?=w3.heap[R]?):=aA ((Below.heap_setCell _ ⟨g3,i*3+2,none⟩ (.int .i64 2) R (by simp only;exact hneR)).trans HR5.out)
   intro KK hKK
   try rw[if_pos (by rfl)]
   go_wp2_with fail
   refine hKK _ _ ⟨⟨World.drew (w3.setCell ⟨g3,i*3+1,none⟩ (.int .i64 lv)),HR5.out⟩,rfl⟩ (fun y=>∃z:Calm.OnB R w3,y=z.1) (fun _ h=>h) ⟨⟨World.drew (w3.setCell ⟨g3,i*3+1,none⟩ (.int .i64 lv)),HR5.out⟩,rfl⟩ ?_
   repeat (go_big_quiet_step (fail))
   refine wpQuiet_nil ?_
   intro KK hKK
   try rw[if_pos (by rfl)]
   go_wp2_with fail
   refine hKK _ _ ⟨⟨World.drew ((w3.setCell ⟨g3,i*3+1,none⟩ (.int .i64 lv)).setCell ⟨g3,i*3+2,none⟩ (.int .i64 2)),HR6.out⟩,rfl⟩ (fun y=>∃z:Calm.OnB R w3,y=z.1) (fun _ h=>h) ⟨⟨World.drew ((w3.setCell ⟨g3,i*3+1,none⟩ (.int .i64 lv)).setCell ⟨g3,i*3+2,none⟩ (.int .i64 2)),HR6.out⟩,rfl⟩ ?_
   refine wpQuiet_nil ?_
   go_wp2
   go_end0
   have ho:=HW3.out.t
   have u1:=World.ownsRow.stored ho (i*3+1) (.int .i64 lv)
   have u2:=World.ownsRow.stored u1.1 (i*3+2) (.int .i64 2)
   have hg:w3.grownBy ((w3.setCell ⟨g3,i*3+1,none⟩ (.int .i64 lv)).setCell ⟨g3,i*3+2,none⟩ (.int .i64 2)).drew (some g3):=(aD (aD (World.grownBy.refl _ _) _ _) _ _).trans (aJ _ _)
   have hOT:aX ((w3.setCell ⟨g3,i*3+1,none⟩ (.int .i64 lv)).setCell ⟨g3,i*3+2,none⟩ (.int .i64 2)) B (.slice (some ⟨g3,0,none⟩) ts'.length cc3) (ts'.modify i fun t=>⟨t.nm,lv,2⟩):=by
    unfold aX
    rw[List.length_modify,←zcT ts' i HLT.out]
    exact u2.1
   exact⟨rfl,⟨_,_,_,HW3.out.tm_put hOT hg⟩,HB3.out.grown hg (Nat.le_trans hB HB3.out.size) (fun k e=>by injection e with e;omega),HK3.out.trans (KpT.cells hg HCU.out (.inr rfl))⟩
end Go.Proofs.YtabmfpgpkbndeaaGreat
