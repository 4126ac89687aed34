/- Part of the proofs over this program: Ref7O, Ref7T, Ref8O, CfgLevels, BldT, BldS, BldD, BldE, BldF. -/
import Derived.Test.YtkfelkpilaipnaaGreatDoorKF
namespace Go.Proofs.YtkfelkpilaipnaaGreatDoor
set_option maxRecDepth 100000
set_option maxHeartbeats 40000000
open Go.RowKit
theorem zhr (z:Int) (w:World):Calls Tryz.prog 133 #[.int .u8 z] w fun e w'=>e=.returned (.int .i64 (if z=58 then 10 else if z=124 then 11 else if z=59 then 12 else 0))∧w=w':=by
 by_cases h1:z=58
 ·subst h1
  go_enter Tryz.func133,Tryz.ntmps133
  go_wp2
  go_ret
  exact⟨rfl,rfl⟩
 ·by_cases h2:z=124
  ·subst h2
   go_enter Tryz.func133,Tryz.ntmps133
   go_wp2
   go_ret
   exact⟨rfl,rfl⟩
  ·by_cases h3:z=59
   ·subst h3
    go_enter Tryz.func133,Tryz.ntmps133
    go_wp2
    go_ret
    exact⟨rfl,rfl⟩
   ·rw[if_neg h1,if_neg h2,if_neg h3]
    have q1:(z==58)=false:=by simpa using h1
    have q2:(z==124)=false:=by simpa using h2
    have q3:(z==59)=false:=by simpa using h3
    clear h1 h2 h3
    go_enter Tryz.func133,Tryz.ntmps133
    go_wp2
    go_ret
    exact⟨rfl,rfl⟩
theorem zf6 (l m:List Int) (hl:K.Bytes l) (hm:K.Bytes m):((K.str l).toList==(K.str m).toList)=decide (l=m):=by
 rw[T.str_list,T.str_list,Bool.eq_iff_iff,beq_iff_eq,decide_eq_true_iff]
 exact⟨fun h=>K.bytes_inj hl hm h,fun h=>by rw[h]⟩
theorem zd6 (l:List Int) (hl:K.Bytes l) (w:World):Calls Tryz.prog 132 #[.string (K.str l)] w fun e w'=>e=.returned (.int .i64 (T.wkind l))∧w=w':=by
 have b1:=zf6 l [116,111,107,101,110] hl (by intro x hx;simp at hx;omega)
 have b2:=zf6 l [108,101,102,116] hl (by intro x hx;simp at hx;omega)
 have b3:=zf6 l [114,105,103,104,116] hl (by intro x hx;simp at hx;omega)
 have b4:=zf6 l [110,111,110,97,115,115,111,99] hl (by intro x hx;simp at hx;omega)
 have b5:=zf6 l [115,116,97,114,116] hl (by intro x hx;simp at hx;omega)
 have b6:=zf6 l [112,114,101,99] hl (by intro x hx;simp at hx;omega)
 rw[show(K.str [116,111,107,101,110]).toList=[116,111,107,101,110] by rw[ByteArray.toList_eq];rfl]at b1
 rw[show(K.str [108,101,102,116]).toList=[108,101,102,116] by rw[ByteArray.toList_eq];rfl]at b2
 rw[show(K.str [114,105,103,104,116]).toList=[114,105,103,104,116] by rw[ByteArray.toList_eq];rfl]at b3
 rw[show(K.str [110,111,110,97,115,115,111,99]).toList=[110,111,110,97,115,115,111,99] by rw[ByteArray.toList_eq];rfl]at b4
 rw[show(K.str [115,116,97,114,116]).toList=[115,116,97,114,116] by rw[ByteArray.toList_eq];rfl]at b5
 rw[show(K.str [112,114,101,99]).toList=[112,114,101,99] by rw[ByteArray.toList_eq];rfl]at b6
 unfold T.wkind
 clear hl
 generalize hs:K.str l=st at *
 clear hs
 go_enter Tryz.func132,Tryz.ntmps132
 go_wp2
 all_goals go_ret
 all_goals exact⟨rfl,rfl⟩
namespace T
theorem skip_kind (l:List Int) (f:Nat) (s:List Int):(skip l f s).1=0:=by unfold skip;split <;> rfl
theorem zla {z:Int} (h:head z=true):(97≤z∧z≤122)∨(65≤z∧z≤90)∨z=95:=by
 unfold head small at h
 simp only[Bool.or_eq_true,Bool.and_eq_true,decide_eq_true_eq,beq_iff_eq]at h
 omega
theorem piece_name (l:List Int) (h:head (l.getD 0 0)=true):piece l=name l:=by
 have hz:=zla h
 unfold piece
 simp only
 rw[if_neg (by omega),if_neg (by omega),if_neg (by omega),if_neg (by omega),if_neg (by omega),if_neg (by omega),if_neg (by omega),if_neg (by omega),if_neg (by omega)]
theorem piece_39 (l:List Int) (h:l.getD 0 0=39):piece l=literal l:=by
 unfold piece
 simp only[h]
 rfl
theorem piece_sign (l:List Int) (h1:head (l.getD 0 0)=false) (h2:¬l.getD 0 0=39) (h3:¬l.getD 0 0=37) (he:(piece l).2.2=0) (hk:(piece l).1≠0):piece l=((if l.getD 0 0=58 then 10 else if l.getD 0 0=124 then 11 else if l.getD 0 0=59 then 12 else 0),1,0)∧(if l.getD 0 0=58 then(10:Int) else if l.getD 0 0=124 then 11 else if l.getD 0 0=59 then 12 else 0)≠0:=by
 have hns:nsize l=0:=by
  cases l with
  | nil=>rfl
  | cons z r=>rw[nsize_cons,if_neg];simpa using h1
 revert he hk
 unfold piece
 simp only
 split
 ·intro _ h;exact absurd rfl h
 split
 ·intro _ h
  unfold comment at h
  split at h
  ·exact absurd (skip_kind _ _ _) h
  split at h <;> exact absurd rfl h
 split
 ·intro _ h;exact absurd (skip_kind _ _ _) h
 split
 ·intro _ h
  unfold action at h
  split at h <;> exact absurd rfl h
 split
 ·exact fun _ _=>⟨rfl,by decide⟩
 split
 ·exact fun _ _=>⟨rfl,by decide⟩
 split
 ·exact fun _ _=>⟨rfl,by decide⟩
 ·intro h
  unfold name at h
  rw[if_pos hns]at h
  simp at h
end T
def zeL (L:List Int) (k:Nat) (x:T.P3):Value:=.tuple #[.agg #[.int .i64 x.1,.string (K.str (aW x.1 ((L.drop k).take x.2.1))),.complex .f64 (Fl.fl (Pl.pos (L.take k)).1) (Fl.fl (Pl.pos (L.take k)).2)],.int .i64 ((k+x.2.1:Nat):Int),.int .i64 0]
theorem zi6 (A:Option Addr) (c:Nat) (L:List Int) (k:Nat) (w:World) (hr:RdB w w.heap.size A L) (hl:K.Bytes L) (hc:L.length≤c) (hn:L.length≤2000) (hk:k<L.length) (he:(T.piece (L.drop k)).2.2=0) (hx:(T.piece (L.drop k)).1≠0)
  (h1:T.head (L.getD k 0)=false) (h2:¬L.getD k 0=39) (h3:¬L.getD k 0=37) :
  Calls Tryz.prog 93 #[.slice A L.length c,.int .i64 k] w fun e w'=>e=.returned (zeL L k (T.piece (L.drop k)))∧Below w.heap.size w w':=by
 have hz:(L.drop k).getD 0 0=L.getD k 0:=by rw[Go.Proofs.YtkfelkpilaipnaaGreatDoor.L.cons_drop L k hk];rfl
 obtain⟨g,o,rfl,hgl,hcl⟩:=hr (by omega)
 have hcell:=hcl k hk
 have hps:=T.piece_sign (L.drop k) (by rw[hz];exact h1) (by rw[hz];exact h2) (by rw[hz];exact h3) he hx
 rw[hz]at hps
 obtain⟨hpc,hkn⟩:=hps
 have hp37:T.pre (L.drop k) [37,37]=false:=by
  rcases hh:T.pre (L.drop k) [37,37] with _|_
  ·rfl
  ·exact absurd ((T.pre_two _ _ _ (hl.drop k) (by intro x hx;simp at hx;omega) hh).1) (by rw[hz];exact h3)
 have HAT:=aA (fun(w1:World) (h:Below w.heap.size w w1)=>zc0 (some ⟨g,o,none⟩) c w.heap.size L k w1 (hr.below h (Nat.le_refl _)) hn (by omega))
 have H1:=aA (fun(w1:World) (h:Below w.heap.size w w1)=>zaS (some ⟨g,o,none⟩) c w.heap.size L [37,37] k w1 (hr.below h (Nat.le_refl _)) hl hc (by omega) (by omega) (by decide))
 rw[hp37,show K.str [37,37]=⟨#[37,37]⟩ from rfl]at H1
 have HF:=aA (zaC (L.getD k 0))
 rw[h1]at HF
 have HM:=aA (zhr (L.getD k 0))
 have HB0:=aA (fun o=>((Below.refl w.heap.size w).alloc (Nat.le_refl _) o))
 have SC:=fun a w m X Y=>show(store a (.complex .f64 X Y) m).run Tryz.prog w=stored Tryz.prog w a (.complex .f64 X Y) m from run_store _ w a _ m rfl
 have q39:(L.getD k 0==39)=false:=by simpa using h2
 have q37:(L.getD k 0==37)=false:=by simpa using h3
 rw[hpc]
 unfold zeL
 have ht:aW (if L.getD k 0=58 then 10 else if L.getD k 0=124 then 11 else if L.getD k 0=59 then 12 else 0) ((L.drop k).take 1)=[]:=by
  unfold aW
  rw[if_neg]
  split
  ·omega
  split
  ·omega
  split <;> omega
 simp only
 rw[ht,show K.str []=⟨#[]⟩ from rfl]
 have qk:((if L.getD k 0=58 then(10:Int) else if L.getD k 0=124 then 11 else if L.getD k 0=59 then 12 else 0)==0)=false:=by simpa using hkn
 clear ht hpc hkn hp37 hcl hr hz h1 h2 h3 he hx
 generalize (if L.getD k 0=58 then(10:Int) else if L.getD k 0=124 then 11 else if L.getD k 0=59 then 12 else 0)=xk at *
 generalize L.getD k 0=z at *
 generalize Fl.fl (Pl.pos (L.take k)).1=X at *
 generalize Fl.fl (Pl.pos (L.take k)).2=Y at *
 go_enter Tryz.func93,Tryz.ntmps93
 go_wp2_with fail
 refine(HAT.out _ (HB0.out _)).mono ?_;rintro _ w' ⟨rfl,rfl⟩
 go_wp2_with fail
 refine(HF.out _).mono ?_;rintro _ w' ⟨rfl,rfl⟩
 go_wp2_with fail
 refine(H1.out _ ((HB0.out _).alloc (by simp) _)).mono ?_;rintro _ w' ⟨rfl,rfl⟩
 go_wp2_with fail
 refine(HM.out _).mono ?_;rintro _ w' ⟨rfl,rfl⟩
 go_wp2
 refine bodyPost_ret (v:=.tuple #[.agg #[.int .i64 xk,.string ⟨#[]⟩,.complex .f64 X Y],.int .i64 ((k:Int)+1),.int .i64 0]) (by simp[results,Tryz.results93,go_sem]) rfl ⟨by rw[Int.natCast_add];rfl,?_⟩
 exact(HB0.out _).alloc (by simp) _
theorem zi8 (A:Option Addr) (c:Nat) (L:List Int) (k:Nat) (w:World) (hr:RdB w w.heap.size A L) (hl:K.Bytes L) (hc:L.length≤c) (hn:L.length≤2000) (hk:k<L.length) (hp:T.pre (L.drop k) [37,37]=true) :
  Calls Tryz.prog 93 #[.slice A L.length c,.int .i64 k] w fun e w'=>e=.returned (zeL L k (T.piece (L.drop k)))∧Below w.heap.size w w':=by
 have hz:(L.drop k).getD 0 0=L.getD k 0:=by rw[Go.Proofs.YtkfelkpilaipnaaGreatDoor.L.cons_drop L k hk];rfl
 have h37:=(T.pre_two _ _ _ (hl.drop k) (by intro x hx;simp at hx;omega) hp).1
 have hpc:T.piece (L.drop k)=(9,2,0):=by rw[T.piece_37 _ h37];unfold T.percent;rw[if_pos hp]
 rw[hz]at h37
 obtain⟨g,o,rfl,hgl,hcl⟩:=hr (by omega)
 have hcell:=hcl k hk
 rw[h37]at hcell
 have HAT:=aA (fun(w1:World) (h:Below w.heap.size w w1)=>zc0 (some ⟨g,o,none⟩) c w.heap.size L k w1 (hr.below h (Nat.le_refl _)) hn (by omega))
 have H1:=aA (fun(w1:World) (h:Below w.heap.size w w1)=>zaS (some ⟨g,o,none⟩) c w.heap.size L [37,37] k w1 (hr.below h (Nat.le_refl _)) hl hc (by omega) (by omega) (by decide))
 rw[hp,show K.str [37,37]=⟨#[37,37]⟩ from rfl]at H1
 have HF:=aA (zaC 37)
 rw[show T.head 37=false from rfl]at HF
 have HB0:=aA (fun o=>((Below.refl w.heap.size w).alloc (Nat.le_refl _) o))
 have SC:=fun a w m X Y=>show(store a (.complex .f64 X Y) m).run Tryz.prog w=stored Tryz.prog w a (.complex .f64 X Y) m from run_store _ w a _ m rfl
 rw[hpc]
 unfold zeL
 simp only
 rw[show aW 9 ((L.drop k).take 2)=[] from rfl,show K.str []=⟨#[]⟩ from rfl]
 clear hpc hp hcl hr hz h37
 generalize Fl.fl (Pl.pos (L.take k)).1=X at *
 generalize Fl.fl (Pl.pos (L.take k)).2=Y at *
 go_enter Tryz.func93,Tryz.ntmps93
 go_wp2_with fail
 refine(HAT.out _ (HB0.out _)).mono ?_;rintro _ w' ⟨rfl,rfl⟩
 go_wp2_with fail
 refine(HF.out _).mono ?_;rintro _ w' ⟨rfl,rfl⟩
 go_wp2_with fail
 refine(H1.out _ ((HB0.out _).alloc (by simp) _)).mono ?_;rintro _ w' ⟨rfl,rfl⟩
 go_wp2
 refine bodyPost_ret (v:=.tuple #[.agg #[.int .i64 9,.string ⟨#[]⟩,.complex .f64 X Y],.int .i64 ((k:Int)+2),.int .i64 0]) (by simp[results,Tryz.results93,go_sem]) rfl ⟨by rw[Int.natCast_add];rfl,?_⟩
 exact(HB0.out _).alloc (by simp) _
theorem zi5 (A:Option Addr) (c:Nat) (L:List Int) (k:Nat) (w:World) (hr:RdB w w.heap.size A L) (hl:K.Bytes L) (hc:L.length≤c) (hn:L.length≤2000) (hk:k<L.length) (he:(T.piece (L.drop k)).2.2=0) (hx:(T.piece (L.drop k)).1≠0) (h37:L.getD k 0=37) (hp:T.pre (L.drop k) [37,37]=false) :
  Calls Tryz.prog 93 #[.slice A L.length c,.int .i64 k] w fun e w'=>e=.returned (zeL L k (T.piece (L.drop k)))∧Below w.heap.size w w':=by
 have hz:(L.drop k).getD 0 0=L.getD k 0:=by rw[Go.Proofs.YtkfelkpilaipnaaGreatDoor.L.cons_drop L k hk];rfl
 have hps:T.psize (L.drop k)=1+T.run T.small (L.drop (k+1)):=by unfold T.psize;rw[List.drop_drop]
 have hword:((L.drop k).take (T.psize (L.drop k))).drop 1=(L.drop (k+1)).take (T.run T.small (L.drop (k+1))):=by
  rw[hps,List.drop_take,List.drop_drop]
  congr 1
  omega
 have hpc:T.piece (L.drop k)=(T.wkind ((L.drop (k+1)).take (T.run T.small (L.drop (k+1)))),1+T.run T.small (L.drop (k+1)),0)∧T.wkind ((L.drop (k+1)).take (T.run T.small (L.drop (k+1))))≠0:=by
  rw[T.piece_37 _ (hz.trans h37)]at he hx ⊢
  unfold T.percent at he hx ⊢
  rw[if_neg (by rw[hp];simp)]at he hx ⊢
  by_cases h3:T.pre (L.drop k) [37,123]=true
  ·rw[if_pos h3]at hx;exact absurd (T.skip_kind _ _ _) hx
  ·rw[if_neg h3]at he hx ⊢
   rw[hword,hps]at he ⊢
   by_cases h4:T.wkind ((L.drop (k+1)).take (T.run T.small (L.drop (k+1))))=0
   ·exfalso;simp[h4]at he
   ·exact⟨by simp[h4],h4⟩
 obtain⟨hpc,hkn⟩:=hpc
 obtain⟨g,o,rfl,hgl,hcl⟩:=hr (by omega)
 have hcell:=hcl k hk
 rw[h37]at hcell
 have HC:=aA hcl
 have hrl:=T.run_le T.small (L.drop (k+1))
 rw[List.length_drop]at hrl
 have HAT:=aA (fun(w1:World) (h:Below w.heap.size w w1)=>zc0 (some ⟨g,o,none⟩) c w.heap.size L k w1 (hr.below h (Nat.le_refl _)) hn (by omega))
 have H1:=aA (fun(w1:World) (h:Below w.heap.size w w1)=>zaS (some ⟨g,o,none⟩) c w.heap.size L [37,37] k w1 (hr.below h (Nat.le_refl _)) hl hc (by omega) (by omega) (by decide))
 rw[hp,show K.str [37,37]=⟨#[37,37]⟩ from rfl]at H1
 have HF:=aA (zaC 37)
 rw[show T.head 37=false from rfl]at HF
 have HCV:=aA (fun(o1 o2:Obj)=>zaH ((((hr.alloc (Nat.le_refl _) o1).alloc (by simp) o2).dropA hc (k+1)).take (T.run T.small (L.drop (k+1)))) ((hl.drop (k+1)).take _) (c-(k+1)))
 have HK:=aA (fun w=>zd6 ((L.drop (k+1)).take (T.run T.small (L.drop (k+1)))) ((hl.drop _).take _) w)
 have HS:=aA (fun w=>zbf w (some ⟨g,o,none⟩) c L.length (k+1) (k+1+T.run T.small (L.drop (k+1))) (by omega) (by omega))
 rw[show k+1+T.run T.small (L.drop (k+1))-(k+1)=T.run T.small (L.drop (k+1)) by omega]at HS
 have hlt2:((L.drop (k+1)).take (T.run T.small (L.drop (k+1)))).length=T.run T.small (L.drop (k+1)):=by rw[List.length_take,List.length_drop];omega
 rw[hlt2]at HCV
 have HB0:=aA (fun o=>((Below.refl w.heap.size w).alloc (Nat.le_refl _) o))
 have SC:=fun a w m X Y=>show(store a (.complex .f64 X Y) m).run Tryz.prog w=stored Tryz.prog w a (.complex .f64 X Y) m from run_store _ w a _ m rfl
 rw[hpc]
 unfold zeL
 have hwb:=T.wkind_bd ((L.drop (k+1)).take (T.run T.small (L.drop (k+1))))
 have ht:aW (T.wkind ((L.drop (k+1)).take (T.run T.small (L.drop (k+1))))) ((L.drop k).take (1+T.run T.small (L.drop (k+1))))=[]:=by
  have:=hwb.2.2 hkn
  unfold aW;rw[if_neg (by omega)]
 simp only
 rw[ht,show K.str []=⟨#[]⟩ from rfl]
 have qk:(T.wkind ((L.drop (k+1)).take (T.run T.small (L.drop (k+1))))==0)=false:=by simpa using hkn
 have HRN:=aA (T.run_next T.small L)
 have HRE:=aA (T.run_end T.small L)
 clear hpc hp hcl hr hz h37 ht hkn hwb hword hps hlt2 he hx hl
 generalize T.wkind ((L.drop (k+1)).take (T.run T.small (L.drop (k+1))))=xk at *
 generalize K.str ((L.drop (k+1)).take (T.run T.small (L.drop (k+1))))=st at *
 generalize hrun:T.run T.small (L.drop (k+1))=rn at *
 have HRUN:=aA hrun
 clear hrun
 generalize Fl.fl (Pl.pos (L.take k)).1=X at *
 generalize Fl.fl (Pl.pos (L.take k)).2=Y at *
 go_enter Tryz.func93,Tryz.ntmps93
 go_wp2_with fail
 refine(HAT.out _ (HB0.out _)).mono ?_;rintro _ w' ⟨rfl,rfl⟩
 go_wp2_with fail
 refine(HF.out _).mono ?_;rintro _ w' ⟨rfl,rfl⟩
 go_wp2_with fail
 refine(H1.out _ ((HB0.out _).alloc (by simp) _)).mono ?_;rintro _ w' ⟨rfl,rfl⟩
 go_wp2_with fail
 go_loop [9] (fun vi=>∃(j:Nat),j≤L.length∧k+1≤j∧vi=.int .i64 j∧j+T.run T.small (L.drop j)=k+1+rn) (fun vi=>L.length-(intOf vi).toNat)
 case atStart=>exact⟨k+1,by omega,by omega,by go_num,by rw[HRUN.out]⟩
 case round =>
  obtain⟨j,hj,hkj,rfl,hrel⟩:=hrel
  have HV:=aA hrel
  clear hrel
  by_cases hlt:j<L.length
  ·have hcj:=HC.out j hlt
   have hrn:=HRN.out j hlt
   by_cases hs:97≤L.getD j 0∧L.getD j 0≤122
   ·have hsm:T.small (L.getD j 0)=true:=by unfold T.small;simp;exact hs
    rw[hsm,if_pos rfl]at hrn
    have HN:=aA hrn
    obtain⟨hs1,hs2⟩:=hs
    clear hsm hrn hcell
    generalize L.getD j 0=z at *
    go_wp2
    go_round
    case rel=>exact⟨j+1,by omega,by omega,by go_num,by have:=HV.out;have:=HN.out;omega⟩
    case measure=>simp[intOf];omega
   ·have hsm:T.small (L.getD j 0)=false:=by
     rcases hq:T.small (L.getD j 0) with _|_
     ·rfl
     ·exfalso;apply hs;unfold T.small at hq;simp at hq;exact hq
    rw[hsm]at hrn
    have hje:k+1+rn=j:=by have:=HV.out;rw[hrn]at this;simp at this;omega
    have S1:∀w,(Instr.sliceAt 40 (.slice (some ⟨g,o,none⟩) L.length c) (some (.int .i64 ((k:Int)+1))) (some (.int .i64 j)) none).run Tryz.prog w=.ok (.slice (dropA (some ⟨g,o,none⟩) c (k+1)) rn (c-(k+1))) w:=fun w=>by
     have h:=HS.out w
     rw[hje,show((k+1:Nat):Int)=(k:Int)+1 by omega]at h
     exact h
    have C1:=HCV.out bQ (.cells #[.int .i64 0,.string ⟨#[]⟩,.complex .f64 X Y] 122)
    unfold bQ at C1
    have HJ:=aA hje
    clear hsm hrn hje hcell HS HCV
    generalize dropA (some ⟨g,o,none⟩) c (k+1)=D at *
    generalize c-(k+1)=c2 at *
    generalize L.getD j 0=z at *
    by_cases h97:97≤z
    ·have h122:¬z≤122:=fun h=>hs ⟨h97,h⟩
     clear hs
     go_wp2_with fail
     refine(HK.out _).mono ?_;rintro _ w' ⟨rfl,rfl⟩
     go_wp2
     refine bodyPost_ret (v:=.tuple #[.agg #[.int .i64 xk,.string ⟨#[]⟩,.complex .f64 X Y],.int .i64 j,.int .i64 0]) (by simp[results,Tryz.results93,go_sem]) rfl ⟨by rw[←HJ.out,show k+(1+rn)=k+1+rn by omega],?_⟩
     exact(HB0.out _).alloc (by simp) _
    ·clear hs
     go_wp2_with fail
     refine(HK.out _).mono ?_;rintro _ w' ⟨rfl,rfl⟩
     go_wp2
     refine bodyPost_ret (v:=.tuple #[.agg #[.int .i64 xk,.string ⟨#[]⟩,.complex .f64 X Y],.int .i64 j,.int .i64 0]) (by simp[results,Tryz.results93,go_sem]) rfl ⟨by rw[←HJ.out,show k+(1+rn)=k+1+rn by omega],?_⟩
     exact(HB0.out _).alloc (by simp) _
  ·have hre:=HRE.out j (by omega)
   have hje:k+1+rn=j:=by have:=HV.out;rw[hre]at this;omega
   have S1:∀w,(Instr.sliceAt 40 (.slice (some ⟨g,o,none⟩) L.length c) (some (.int .i64 ((k:Int)+1))) (some (.int .i64 j)) none).run Tryz.prog w=.ok (.slice (dropA (some ⟨g,o,none⟩) c (k+1)) rn (c-(k+1))) w:=fun w=>by
    have h:=HS.out w
    rw[hje,show((k+1:Nat):Int)=(k:Int)+1 by omega]at h
    exact h
   have C1:=HCV.out bQ (.cells #[.int .i64 0,.string ⟨#[]⟩,.complex .f64 X Y] 122)
   unfold bQ at C1
   have HJ:=aA hje
   clear hre hje hcell HS HCV
   generalize dropA (some ⟨g,o,none⟩) c (k+1)=D at *
   generalize c-(k+1)=c2 at *
   go_wp2_with fail
   refine(HK.out _).mono ?_;rintro _ w' ⟨rfl,rfl⟩
   go_wp2
   refine bodyPost_ret (v:=.tuple #[.agg #[.int .i64 xk,.string ⟨#[]⟩,.complex .f64 X Y],.int .i64 j,.int .i64 0]) (by simp[results,Tryz.results93,go_sem]) rfl ⟨by rw[←HJ.out,show k+(1+rn)=k+1+rn by omega],?_⟩
   exact(HB0.out _).alloc (by simp) _
theorem zi7 (A:Option Addr) (c:Nat) (L:List Int) (k:Nat) (w:World) (hr:RdB w w.heap.size A L) (hl:K.Bytes L) (hc:L.length≤c) (hn:L.length≤2000) (hk:k<L.length) (he:(T.piece (L.drop k)).2.2=0) (hh:T.head (L.getD k 0)=true) :
  Calls Tryz.prog 93 #[.slice A L.length c,.int .i64 k] w fun e w'=>e=.returned (zeL L k (T.piece (L.drop k)))∧Below w.heap.size w w':=by
 have hz:(L.drop k).getD 0 0=L.getD k 0:=by rw[Go.Proofs.YtkfelkpilaipnaaGreatDoor.L.cons_drop L k hk];rfl
 have hns:T.nsize (L.drop k)=1+T.run T.inName (L.drop (k+1)):=by
  rw[Go.Proofs.YtkfelkpilaipnaaGreatDoor.L.cons_drop L k hk,T.nsize_cons,if_pos hh];omega
 have hpc:T.piece (L.drop k)=(1,1+T.run T.inName (L.drop (k+1)),0)∧1+T.run T.inName (L.drop (k+1))≤20:=by
  rw[T.piece_name _ (by rw[hz];exact hh)]at he ⊢
  unfold T.name at he ⊢
  rw[hns]at he ⊢
  rw[if_neg (by omega)]at he ⊢
  by_cases h4:20<1+T.run T.inName (L.drop (k+1))
  ·exfalso;simp[h4]at he
  ·exact⟨by simp[h4],by omega⟩
 obtain⟨hpc,h20⟩:=hpc
 obtain⟨g,o,rfl,hgl,hcl⟩:=hr (by omega)
 have hcell:=hcl k hk
 have HC:=aA hcl
 have hrl:=T.run_le T.inName (L.drop (k+1))
 rw[List.length_drop]at hrl
 have HAT:=aA (fun(w1:World) (h:Below w.heap.size w w1)=>zc0 (some ⟨g,o,none⟩) c w.heap.size L k w1 (hr.below h (Nat.le_refl _)) hn (by omega))
 have HF:=aA (zaC (L.getD k 0))
 rw[hh]at HF
 have HLT:=aA (fun j=>zeu (L.getD j 0))
 have HCV:=aA (fun(w1:World) (h:Below w.heap.size w w1)=>zaH (((hr.below h (Nat.le_refl _)).dropA hc k).take (1+T.run T.inName (L.drop (k+1)))) ((hl.drop k).take _) (c-k))
 have HS:=aA (fun w=>zbf w (some ⟨g,o,none⟩) c L.length k (k+(1+T.run T.inName (L.drop (k+1)))) (by omega) (by omega))
 rw[show k+(1+T.run T.inName (L.drop (k+1)))-k=1+T.run T.inName (L.drop (k+1)) by omega]at HS
 have hlt2:((L.drop k).take (1+T.run T.inName (L.drop (k+1)))).length=1+T.run T.inName (L.drop (k+1)):=by rw[List.length_take,List.length_drop];omega
 rw[hlt2]at HCV
 have HB0:=aA (fun o=>((Below.refl w.heap.size w).alloc (Nat.le_refl _) o))
 have SC:=fun a w m X Y=>show(store a (.complex .f64 X Y) m).run Tryz.prog w=stored Tryz.prog w a (.complex .f64 X Y) m from run_store _ w a _ m rfl
 rw[hpc]
 unfold zeL
 have ht:aW 1 ((L.drop k).take (1+T.run T.inName (L.drop (k+1))))=(L.drop k).take (1+T.run T.inName (L.drop (k+1))):=by unfold aW;rw[if_pos (.inl rfl)]
 simp only
 rw[ht]
 have HRN:=aA (T.run_next T.inName L)
 have HRE:=aA (T.run_end T.inName L)
 clear hpc hcl hr hz ht hns hlt2 he hl hh
 generalize K.str ((L.drop k).take (1+T.run T.inName (L.drop (k+1))))=st at *
 generalize hrun:T.run T.inName (L.drop (k+1))=rn at *
 have HRUN:=aA hrun
 clear hrun
 generalize Fl.fl (Pl.pos (L.take k)).1=X at *
 generalize Fl.fl (Pl.pos (L.take k)).2=Y at *
 generalize hzz:L.getD k 0=z at *
 clear hzz
 go_enter Tryz.func93,Tryz.ntmps93
 go_wp2_with fail
 refine(HAT.out _ (HB0.out _)).mono ?_;rintro _ w' ⟨rfl,rfl⟩
 go_wp2_with fail
 refine(HF.out _).mono ?_;rintro _ w' ⟨rfl,rfl⟩
 go_wp2_with fail
 go_loop [9] (fun vi=>∃(j:Nat),j≤L.length∧k+1≤j∧vi=.int .i64 j∧j+T.run T.inName (L.drop j)=k+1+rn) (fun vi=>L.length-(intOf vi).toNat)
 case atStart=>exact⟨k+1,by omega,by omega,by go_num,by rw[HRUN.out]⟩
 case round =>
  obtain⟨j,hj,hkj,rfl,hrel⟩:=hrel
  have HV:=aA hrel
  clear hrel hcell
  by_cases hlt:j<L.length
  ·have hcj:=HC.out j hlt
   have hrn:=HRN.out j hlt
   have HLj:=aA (HLT.out j)
   rcases hsm:T.inName (L.getD j 0) with _|_
   ·rw[hsm]at hrn HLj
    have hje:k+(1+rn)=j:=by have:=HV.out;rw[hrn]at this;simp at this;omega
    have HJ:=aA hje
    clear hsm hrn
    generalize L.getD j 0=z2 at *
    go_wp2_with fail
    refine(HLj.out _).mono ?_;rintro _ w' ⟨rfl,rfl⟩
    have hgt:¬(j:Int)-(k:Int) > 20:=by have:=HJ.out;omega
    go_upto_region 10 with fail
    have hb5:Below w.heap.size w ((((w.alloc bQ).alloc (.cells #[.int .i64 0,.string ⟨#[]⟩,.complex .f64 X Y] 122))).drew):=aB ((HB0.out bQ).alloc (by simp) _) 1
    unfold bQ at hb5
    have S1:∀w,(Instr.sliceAt 40 (.slice (some ⟨g,o,none⟩) L.length c) (some (.int .i64 k)) (some (.int .i64 j)) none).run Tryz.prog w=.ok (.slice (dropA (some ⟨g,o,none⟩) c k) (1+rn) (c-k)) w:=fun w=>by
     have h:=HS.out w
     rw[HJ.out]at h
     exact h
    have CC:=fun y:Calm.On w.heap.size w=>HCV.out y.1 y.2
    refine Calm.region_tree (fun x=>∃y:Calm.On w.heap.size w,x=y.1) (.one [0,1,2,3,4,5] 6 (.one [7] 8 (.fin []))) (by kernel_rfl) (by kernel_rfl) (fun _ _ d _ _ h=>by cases d <;> exact h) ⟨⟨_,hb5⟩,rfl⟩ ?_
    simp only[Calm.wpT,Calm.wpSt,Calm.pickOps,List.getElem?_toArray,List.getElem?_cons_zero,List.getElem?_cons_succ]
    repeat (go_big_quiet_step (fail))
    refine wpQuiet_nil ?_
    clear CC HCV HS S1 hb5
    have HBE:=aA (fun o1 o2=>aB ((HB0.out o1).alloc (by simp) o2) 1)
    intro KK hKK
    try rw[if_pos (by rfl)]
    go_wp2_with fail
    refine hKK _ _ ⟨⟨_,HBE.out _ _⟩,rfl⟩ (fun x=>∃y:Calm.On w.heap.size w,x=y.1) (fun _ h=>h) ⟨⟨_,HBE.out _ _⟩,rfl⟩ ?_
    repeat (go_big_quiet_step (fail))
    refine wpQuiet_nil ?_
    intro KK hKK
    try rw[if_pos (by rfl)]
    go_wp2_with fail
    refine hKK _ _ ⟨⟨_,HBE.out _ _⟩,rfl⟩ (fun x=>∃y:Calm.On w.heap.size w,x=y.1) (fun _ h=>h) ⟨⟨_,HBE.out _ _⟩,rfl⟩ ?_
    refine wpQuiet_nil ?_
    go_wp2
    exact bodyPost_ret (v:=.tuple #[.agg #[.int .i64 1,.string st,.complex .f64 X Y],.int .i64 j,.int .i64 0]) (by simp[results,Tryz.results93,go_sem]) rfl ⟨by rw[HJ.out],HBE.out _ _⟩
   ·rw[hsm,if_pos rfl]at hrn
    rw[hsm]at HLj
    have HN:=aA hrn
    clear hsm hrn
    generalize L.getD j 0=z2 at *
    go_wp2_with fail
    refine(HLj.out _).mono ?_;rintro _ w' ⟨rfl,rfl⟩
    go_wp2
    go_round
    case rel=>exact⟨j+1,by omega,by omega,by go_num,by have:=HV.out;have:=HN.out;omega⟩
    case measure=>simp[intOf];omega
  ·have hre:=HRE.out j (by omega)
   have hje:k+(1+rn)=j:=by have:=HV.out;rw[hre]at this;omega
   have HJ:=aA hje
   have hgt:¬(j:Int)-(k:Int) > 20:=by omega
   clear hre hje
   go_upto_region 10 with fail
   have hb5:Below w.heap.size w ((((w.alloc bQ).alloc (.cells #[.int .i64 0,.string ⟨#[]⟩,.complex .f64 X Y] 122))).drew):=aB ((HB0.out bQ).alloc (by simp) _) 1
   unfold bQ at hb5
   have S1:∀w,(Instr.sliceAt 40 (.slice (some ⟨g,o,none⟩) L.length c) (some (.int .i64 k)) (some (.int .i64 j)) none).run Tryz.prog w=.ok (.slice (dropA (some ⟨g,o,none⟩) c k) (1+rn) (c-k)) w:=fun w=>by
    have h:=HS.out w
    rw[HJ.out]at h
    exact h
   have CC:=fun y:Calm.On w.heap.size w=>HCV.out y.1 y.2
   refine Calm.region_tree (fun x=>∃y:Calm.On w.heap.size w,x=y.1) (.one [0,1,2,3,4,5] 6 (.one [7] 8 (.fin []))) (by kernel_rfl) (by kernel_rfl) (fun _ _ d _ _ h=>by cases d <;> exact h) ⟨⟨_,hb5⟩,rfl⟩ ?_
   simp only[Calm.wpT,Calm.wpSt,Calm.pickOps,List.getElem?_toArray,List.getElem?_cons_zero,List.getElem?_cons_succ]
   repeat (go_big_quiet_step (fail))
   refine wpQuiet_nil ?_
   clear CC HCV HS S1 hb5
   have HBE:=aA (fun o1 o2=>aB ((HB0.out o1).alloc (by simp) o2) 1)
   intro KK hKK
   try rw[if_pos (by rfl)]
   go_wp2_with fail
   refine hKK _ _ ⟨⟨_,HBE.out _ _⟩,rfl⟩ (fun x=>∃y:Calm.On w.heap.size w,x=y.1) (fun _ h=>h) ⟨⟨_,HBE.out _ _⟩,rfl⟩ ?_
   repeat (go_big_quiet_step (fail))
   refine wpQuiet_nil ?_
   intro KK hKK
   try rw[if_pos (by rfl)]
   go_wp2_with fail
   refine hKK _ _ ⟨⟨_,HBE.out _ _⟩,rfl⟩ (fun x=>∃y:Calm.On w.heap.size w,x=y.1) (fun _ h=>h) ⟨⟨_,HBE.out _ _⟩,rfl⟩ ?_
   refine wpQuiet_nil ?_
   go_wp2
   exact bodyPost_ret (v:=.tuple #[.agg #[.int .i64 1,.string st,.complex .f64 X Y],.int .i64 j,.int .i64 0]) (by simp[results,Tryz.results93,go_sem]) rfl ⟨by rw[HJ.out],HBE.out _ _⟩
theorem zkp (A:Option Addr) (c:Nat) (L:List Int) (k:Nat) (w:World) (hr:RdB w w.heap.size A L) (hl:K.Bytes L) (hc:L.length≤c) (hn:L.length≤2000) (hk:k<L.length) (he:(T.piece (L.drop k)).2.2=0) (h39:L.getD k 0=39) :
  Calls Tryz.prog 93 #[.slice A L.length c,.int .i64 k] w fun e w'=>e=.returned (zeL L k (T.piece (L.drop k)))∧Below w.heap.size w w':=by
 have hz:(L.drop k).getD 0 0=L.getD k 0:=by rw[Go.Proofs.YtkfelkpilaipnaaGreatDoor.L.cons_drop L k hk];rfl
 have hpc:(T.isLit ((L.drop k).take 3)=true∧T.piece (L.drop k)=(2,3,0))∨(T.isLit ((L.drop k).take 3)=false∧T.isLit ((L.drop k).take 4)=true∧T.piece (L.drop k)=(2,4,0)):=by
  rw[T.piece_39 _ (hz.trans h39)]at he ⊢
  unfold T.literal at he ⊢
  rcases h3:T.isLit ((L.drop k).take 3) with _|_
  ·rcases h4:T.isLit ((L.drop k).take 4) with _|_
   ·exfalso
    rw[h3,h4]at he
    simp only[Bool.false_eq_true,if_false]at he
    split at he <;> simp at he
   ·right;refine⟨rfl,rfl,?_⟩;simp
  ·left;refine⟨rfl,?_⟩;simp
 obtain⟨g,o,rfl,hgl,hcl⟩:=hr (by omega)
 have hcell:=hcl k hk
 rw[h39]at hcell
 have HAT:=aA (fun(w1:World) (h:Below w.heap.size w w1)=>zc0 (some ⟨g,o,none⟩) c w.heap.size L k w1 (hr.below h (Nat.le_refl _)) hn (by omega))
 have HF:=aA (zaC 39)
 rw[show T.head 39=false from rfl]at HF
 have HLT:=aA (fun n=>zdv ((L.drop k).take n) ((hl.drop k).take n))
 have HCV:=aA (fun(n:Nat) (hkn:k+n≤L.length) (w1:World) (h:Below w.heap.size w w1)=>(by
  have h1:=zaH (((hr.below h (Nat.le_refl _)).dropA hc k).take n) ((hl.drop k).take _) (c-k)
  rw[show((L.drop k).take n).length=n by rw[List.length_take,List.length_drop];omega]at h1
  exact h1:(convert 40 9 (.slice (dropA (some ⟨g,o,none⟩) c k) n (c-k))).run Tryz.prog w1=.ok (.string (K.str ((L.drop k).take n))) w1))
 have HS:=aA (fun(n:Nat) (hkn:k+n≤L.length) (w1:World)=>(by
  have h1:=zbf w1 (some ⟨g,o,none⟩) c L.length k (k+n) (by omega) (by omega)
  rw[show k+n-k=n by omega,Int.natCast_add]at h1
  exact h1:(Instr.sliceAt 40 (.slice (some ⟨g,o,none⟩) L.length c) (some (.int .i64 k)) (some (.int .i64 ((k:Int)+(n:Int)))) none).run Tryz.prog w1=.ok (.slice (dropA (some ⟨g,o,none⟩) c k) n (c-k)) w1))
 have HB0:=aA (fun o=>((Below.refl w.heap.size w).alloc (Nat.le_refl _) o))
 have SC:=fun a w m X Y=>show(store a (.complex .f64 X Y) m).run Tryz.prog w=stored Tryz.prog w a (.complex .f64 X Y) m from run_store _ w a _ m rfl
 have hov:∀n,zeL L k (2,n,0)=.tuple #[.agg #[.int .i64 2,.string (K.str ((L.drop k).take n)),.complex .f64 (Fl.fl (Pl.pos (L.take k)).1) (Fl.fl (Pl.pos (L.take k)).2)],.int .i64 ((k:Int)+n),.int .i64 0]:=fun n=>by
  unfold zeL aW
  simp
 have HPV:Hid ((T.isLit ((L.drop k).take 3)=true→zeL L k (T.piece (L.drop k))=.tuple #[.agg #[.int .i64 2,.string (K.str ((L.drop k).take 3)),.complex .f64 (Fl.fl (Pl.pos (L.take k)).1) (Fl.fl (Pl.pos (L.take k)).2)],.int .i64 ((k:Int)+3),.int .i64 0])∧(T.isLit ((L.drop k).take 3)=false→T.isLit ((L.drop k).take 4)=true→zeL L k (T.piece (L.drop k))=.tuple #[.agg #[.int .i64 2,.string (K.str ((L.drop k).take 4)),.complex .f64 (Fl.fl (Pl.pos (L.take k)).1) (Fl.fl (Pl.pos (L.take k)).2)],.int .i64 ((k:Int)+4),.int .i64 0])):=aA (by
  refine⟨fun h=>?_,fun h h'=>?_⟩
  ·rcases hpc with⟨_,e⟩|⟨e1,_,_⟩
   ·rw[e];exact hov 3
   ·rw[h]at e1;cases e1
  ·rcases hpc with⟨e1,_⟩|⟨_,_,e⟩
   ·rw[h]at e1;cases e1
   ·rw[e];exact hov 4)
 have HB4:Hid (T.isLit ((L.drop k).take 3)=false→T.isLit ((L.drop k).take 4)=true):=aA (fun h=>by
  rcases hpc with⟨e1,_⟩|⟨_,e,_⟩
  ·rw[h]at e1;cases e1
  ·exact e)
 clear hpc hcl hr hz he hl h39 hov
 generalize zeL L k (T.piece (L.drop k))=V at *
 generalize Fl.fl (Pl.pos (L.take k)).1=X at *
 generalize Fl.fl (Pl.pos (L.take k)).2=Y at *
 go_enter Tryz.func93,Tryz.ntmps93
 go_wp2_with fail
 refine(HAT.out _ (HB0.out _)).mono ?_;rintro _ w' ⟨rfl,rfl⟩
 go_wp2_with fail
 refine(HF.out _).mono ?_;rintro _ w' ⟨rfl,rfl⟩
 go_wp2_with fail
 go_loop [10] (fun vi=>∃(n:Nat),(n=3∨(n=4∧T.isLit ((L.drop k).take 3)=false))∧vi=.int .i64 n) (fun vi=>5-(intOf vi).toNat)
 case atStart=>exact⟨3,.inl rfl,rfl⟩
 case round =>
  clear hcell
  obtain⟨n,hnn,rfl⟩:=hrel
  rcases hnn with rfl|⟨rfl,h3⟩
  ·rcases h3:T.isLit ((L.drop k).take 3) with _|_
   ·clear HPV
    have hlen4:k+3≤L.length:=by
     have h1:=T.isLit_len (HB4.out h3)
     rw[List.length_take,List.length_drop]at h1
     omega
    have C1:=HCV.out 3 hlen4 (((w.alloc bQ).alloc (.cells #[.int .i64 0,.string ⟨#[]⟩,.complex .f64 X Y] 122))) ((HB0.out bQ).alloc (by simp) _)
    unfold bQ at C1
    have S1:∀w,(Instr.sliceAt 40 (.slice (some ⟨g,o,none⟩) L.length c) (some (.int .i64 k)) (some (.int .i64 ((k:Int)+3))) none).run Tryz.prog w=.ok (.slice (dropA (some ⟨g,o,none⟩) c k) 3 (c-k)) w:=HS.out 3 hlen4
    have HLj:=aA (HLT.out 3)
    rw[h3]at HLj
    have H3:=aA h3
    have hl3:¬(k:Int)+3 > (L.length:Int):=by omega
    clear h3
    generalize hst:K.str ((L.drop k).take 3)=st at *
    clear hst
    go_wp2_with fail
    refine(HLj.out _).mono ?_;rintro _ w' ⟨rfl,rfl⟩
    go_wp2
    go_round
    case rel=>exact⟨4,by simp,by go_num⟩
    case measure=>simp[intOf]
   ·have hA:=h3
    clear h3 HB4
    have hlen:k+3≤L.length:=by
     have h1:=T.isLit_len hA
     rw[List.length_take,List.length_drop]at h1
     omega
    have hV:=HPV.out.1 hA
    have C1:=HCV.out 3 hlen (((w.alloc bQ).alloc (.cells #[.int .i64 0,.string ⟨#[]⟩,.complex .f64 X Y] 122))) ((HB0.out bQ).alloc (by simp) _)
    unfold bQ at C1
    have S1:∀w,(Instr.sliceAt 40 (.slice (some ⟨g,o,none⟩) L.length c) (some (.int .i64 k)) (some (.int .i64 ((k:Int)+3))) none).run Tryz.prog w=.ok (.slice (dropA (some ⟨g,o,none⟩) c k) 3 (c-k)) w:=HS.out 3 hlen
    have HLj:=aA (HLT.out 3)
    rw[hA]at HLj
    have HV:=aA hV
    have hl3:¬(k:Int)+3 > (L.length:Int):=by omega
    clear hA hV
    go_wp2_with fail
    refine(HLj.out _).mono ?_;rintro _ w' ⟨rfl,rfl⟩
    go_upto_region 17 with fail
    have hb5:Below w.heap.size w ((((w.alloc bQ).alloc (.cells #[.int .i64 0,.string ⟨#[]⟩,.complex .f64 X Y] 122))).drew):=aB ((HB0.out bQ).alloc (by simp) _) 1
    unfold bQ at hb5
    have CC:=fun y:Calm.On w.heap.size w=>HCV.out 3 hlen y.1 y.2
    refine Calm.region_tree (fun x=>∃y:Calm.On w.heap.size w,x=y.1) (.one [0,1,2,3,4,5,6,7] 8 (.one [9] 10 (.fin []))) (by kernel_rfl) (by kernel_rfl) (fun _ _ d _ _ h=>by cases d <;> exact h) ⟨⟨_,hb5⟩,rfl⟩ ?_
    simp only[Calm.wpT,Calm.wpSt,Calm.pickOps,List.getElem?_toArray,List.getElem?_cons_zero,List.getElem?_cons_succ]
    repeat (go_big_quiet_step (fail))
    refine wpQuiet_nil ?_
    clear CC HCV HS S1 hb5 C1
    have HBE:=aA (fun o1 o2=>aB ((HB0.out o1).alloc (by simp) o2) 1)
    intro KK hKK
    try rw[if_pos (by rfl)]
    go_wp2_with fail
    refine hKK _ _ ⟨⟨_,HBE.out _ _⟩,rfl⟩ (fun x=>∃y:Calm.On w.heap.size w,x=y.1) (fun _ h=>h) ⟨⟨_,HBE.out _ _⟩,rfl⟩ ?_
    repeat (go_big_quiet_step (fail))
    refine wpQuiet_nil ?_
    intro KK hKK
    try rw[if_pos (by rfl)]
    go_wp2_with fail
    refine hKK _ _ ⟨⟨_,HBE.out _ _⟩,rfl⟩ (fun x=>∃y:Calm.On w.heap.size w,x=y.1) (fun _ h=>h) ⟨⟨_,HBE.out _ _⟩,rfl⟩ ?_
    refine wpQuiet_nil ?_
    go_wp2
    exact bodyPost_ret (v:=.tuple #[.agg #[.int .i64 2,.string (K.str ((L.drop k).take 3)),.complex .f64 X Y],.int .i64 ((k:Int)+3),.int .i64 0]) (by simp[results,Tryz.results93,go_sem]) rfl ⟨by rw[HV.out],HBE.out _ _⟩
  ·have hA:=HB4.out h3
   clear HB4
   have hlen:k+4≤L.length:=by
    have h1:=T.isLit_len hA
    rw[List.length_take,List.length_drop]at h1
    rcases h1 with h1|h1
    ·exfalso
     have e3:(L.drop k).take 3=L.drop k:=List.take_of_length_le (by rw[List.length_drop];omega)
     have e4:(L.drop k).take 4=L.drop k:=List.take_of_length_le (by rw[List.length_drop];omega)
     rw[e3]at h3
     rw[e4]at hA
     rw[h3]at hA;cases hA
    ·omega
   have hV:=HPV.out.2 h3 hA
   have C1:=HCV.out 4 hlen (((w.alloc bQ).alloc (.cells #[.int .i64 0,.string ⟨#[]⟩,.complex .f64 X Y] 122))) ((HB0.out bQ).alloc (by simp) _)
   unfold bQ at C1
   have S1:∀w,(Instr.sliceAt 40 (.slice (some ⟨g,o,none⟩) L.length c) (some (.int .i64 k)) (some (.int .i64 ((k:Int)+4))) none).run Tryz.prog w=.ok (.slice (dropA (some ⟨g,o,none⟩) c k) 4 (c-k)) w:=HS.out 4 hlen
   have HLj:=aA (HLT.out 4)
   rw[hA]at HLj
   have HV:=aA hV
   have hl3:¬(k:Int)+4 > (L.length:Int):=by omega
   clear hA hV h3
   go_wp2_with fail
   refine(HLj.out _).mono ?_;rintro _ w' ⟨rfl,rfl⟩
   go_upto_region 17 with fail
   have hb5:Below w.heap.size w ((((w.alloc bQ).alloc (.cells #[.int .i64 0,.string ⟨#[]⟩,.complex .f64 X Y] 122))).drew):=aB ((HB0.out bQ).alloc (by simp) _) 1
   unfold bQ at hb5
   have CC:=fun y:Calm.On w.heap.size w=>HCV.out 4 hlen y.1 y.2
   refine Calm.region_tree (fun x=>∃y:Calm.On w.heap.size w,x=y.1) (.one [0,1,2,3,4,5,6,7] 8 (.one [9] 10 (.fin []))) (by kernel_rfl) (by kernel_rfl) (fun _ _ d _ _ h=>by cases d <;> exact h) ⟨⟨_,hb5⟩,rfl⟩ ?_
   simp only[Calm.wpT,Calm.wpSt,Calm.pickOps,List.getElem?_toArray,List.getElem?_cons_zero,List.getElem?_cons_succ]
   repeat (go_big_quiet_step (fail))
   refine wpQuiet_nil ?_
   clear CC HCV HS S1 hb5 C1
   have HBE:=aA (fun o1 o2=>aB ((HB0.out o1).alloc (by simp) o2) 1)
   intro KK hKK
   try rw[if_pos (by rfl)]
   go_wp2_with fail
   refine hKK _ _ ⟨⟨_,HBE.out _ _⟩,rfl⟩ (fun x=>∃y:Calm.On w.heap.size w,x=y.1) (fun _ h=>h) ⟨⟨_,HBE.out _ _⟩,rfl⟩ ?_
   repeat (go_big_quiet_step (fail))
   refine wpQuiet_nil ?_
   intro KK hKK
   try rw[if_pos (by rfl)]
   go_wp2_with fail
   refine hKK _ _ ⟨⟨_,HBE.out _ _⟩,rfl⟩ (fun x=>∃y:Calm.On w.heap.size w,x=y.1) (fun _ h=>h) ⟨⟨_,HBE.out _ _⟩,rfl⟩ ?_
   refine wpQuiet_nil ?_
   go_wp2
   exact bodyPost_ret (v:=.tuple #[.agg #[.int .i64 2,.string (K.str ((L.drop k).take 4)),.complex .f64 X Y],.int .i64 ((k:Int)+4),.int .i64 0]) (by simp[results,Tryz.results93,go_sem]) rfl ⟨by rw[HV.out],HBE.out _ _⟩
theorem ziU (A:Option Addr) (c:Nat) (L:List Int) (k:Nat) (w:World) (hr:RdB w w.heap.size A L) (hl:K.Bytes L) (hc:L.length≤c) (hn:L.length≤2000) (hk:k<L.length) (he:(T.piece (L.drop k)).2.2=0) (hx:(T.piece (L.drop k)).1≠0) :
  Calls Tryz.prog 93 #[.slice A L.length c,.int .i64 k] w fun e w'=>e=.returned (zeL L k (T.piece (L.drop k)))∧Below w.heap.size w w':=by
 rcases hh:T.head (L.getD k 0) with _|_
 ·by_cases h39:L.getD k 0=39
  ·exact zkp A c L k w hr hl hc hn hk he h39
  ·by_cases h37:L.getD k 0=37
   ·rcases hp:T.pre (L.drop k) [37,37] with _|_
    ·exact zi5 A c L k w hr hl hc hn hk he hx h37 hp
    ·exact zi8 A c L k w hr hl hc hn hk hp
   ·exact zi6 A c L k w hr hl hc hn hk he hx hh h39 h37
 ·exact zi7 A c L k w hr hl hc hn hk he hh
theorem zhm (A:Option Addr) (c:Nat) (L:List Int) (xs:List Tok) (w:World) (hr:RdB w w.heap.size A L) (hl:K.Bytes L) (hc:L.length≤c) (hn:L.length≤2000) (hx:zdV L=.ok xs) :
  Calls Tryz.prog 60 #[.slice A L.length c] w (zaW L (.ok xs) w):=by
 have HSK:=aA (fun(w1:World) (h:Below w.heap.size w w1) (k:Nat) (hk:k<L.length) (he:(T.piece (L.drop k)).2.2=0)=>zhn A c w.heap.size L k w1 (hr.below h (Nat.le_refl _)) hl hc (by omega) hk he)
 have HON:=aA (fun(w1:World) (h:Below w.heap.size w w1) (k:Nat) (hk:k<L.length) (he:(T.piece (L.drop k)).2.2=0) (hx:(T.piece (L.drop k)).1≠0)=>ziU A c L k w1 (hr.up h) hl hc hn hk he hx)
 have HAT:=aA (fun(w1:World) (h:Below w.heap.size w w1)=>zc0 A c w.heap.size L L.length w1 (hr.below h (Nat.le_refl _)) hn (Nat.le_refl _))
 have HFN:=aA (fun(k:Nat) (hk:k<L.length)=>T.piece_fine (L.drop k) (by rw[List.length_drop];omega) (hl.drop k))
 have HX:=aA hx
 have HB0:Hid (Below w.heap.size w w):=aA (Below.refl _ _)
 have SC:=fun a w m X Y=>show(store a (.complex .f64 X Y) m).run Tryz.prog w=stored Tryz.prog w a (.complex .f64 X Y) m from run_store _ w a _ m rfl
 clear hr hl hx
 go_enter Tryz.func60,Tryz.ntmps60
 go_wp2
 go_loopw [5,6,7] (fun v vk vm wr=>∃(f k m:Nat) (acc:List Tok),vk=.int .i64 k∧vm=.int .i64 m∧k≤L.length∧m≤2∧L.length<k+f∧acc.length≤k∧bR L wr w.heap.size v acc∧Below w.heap.size w wr∧zdR f (L.drop k) k m acc=.ok xs) (fun _ vk _ _=>L.length-(intOf vk).toNat)
 case atStart=>exact⟨L.length+1,0,0,[],rfl,rfl,by omega,by omega,by omega,by simp,bR.nil _ _ _,HB0.out,by have:=HX.out;unfold zdV at this;simpa using this⟩
 case round =>
  clear HX HB0
  obtain⟨f,k,m,acc,rfl,rfl,hk,hmk,hf,hacc,ho,hb,hsc⟩:=hrel
  have HO:=aA ho
  have HB:=aA hb
  have HSC:=aA hsc
  have HMK:=aA hmk
  obtain⟨A0,c0,rfl,hq1,hq2⟩:=ho.form
  clear ho hb hsc hmk hq1 hq2
  by_cases hend:L.length≤k∨2≤m
  ·have hmb:=HMK.out
   have hxs:xs=acc:=by
    have:=HSC.out
    rw[zbt _ _ _ _ _ (by rw[List.length_drop];omega)]at this
    injection this with this
    exact this.symm
   subst hxs
   have HATw:=aA (HAT.out wr HB.out)
   rw[List.take_length]at HATw
   clear HAT HSK HON HFN HSC
   by_cases hlt:k<L.length
   ·have hm2:¬(m:Int)<2:=by omega
    clear hend
    go_wp2_with fail
    refine(HATw.out).mono ?_;rintro _ w' ⟨rfl,rfl⟩
    go_wp2
    go_ret3
    exact⟨_,rfl,HO.out,HB.out⟩
   ·have hlt2:¬(k:Int)<(L.length:Int):=by omega
    clear hend
    go_wp2_with fail
    refine(HATw.out).mono ?_;rintro _ w' ⟨rfl,rfl⟩
    go_wp2
    go_ret3
    exact⟨_,rfl,HO.out,HB.out⟩
  ·have hlt:k<L.length:=by omega
   have hm2:(m:Int)<2:=by omega
   obtain⟨f,rfl⟩:∃f',f=f'+1:=⟨f-1,by omega⟩
   have hne:¬((L.drop k).length=0∨m=2):=by rw[List.length_drop];omega
   have he:(T.piece (L.drop k)).2.2=0:=by
    by_cases h:(T.piece (L.drop k)).2.2=0
    ·exact h
    ·have:=HSC.out
     rw[zbX _ _ _ _ _ hne h]at this
     cases this
   have hso:=HSC.out
   rw[zbB _ _ _ _ _ hne he,List.drop_drop]at hso
   have hfine:=HFN.out k hlt
   obtain⟨h1,h2,h3,_,_,_⟩:=hfine
   obtain⟨h4,h5,_,_⟩:=h1 he
   rw[List.length_drop]at h5
   have HSKw:=aA (HSK.out wr HB.out k hlt he)
   have HONw:=aA (HON.out wr HB.out k hlt he)
   clear HSK HON HFN HAT HSC h1 hne hend
   unfold zeL at HONw
   generalize T.piece (L.drop k)=x at *
   obtain⟨xk,xn,xe⟩:=x
   simp only at he h2 h3 h4 h5
   subst he
   have HSO:=aA hso
   clear hso
   by_cases hk0:xk=0
   ·subst hk0
    have hv:zcK k (0,xn,0)=.tuple #[.int .i64 ((k+xn:Nat):Int),.bool true]:=rfl
    rw[hv]at HSKw
    have HS2:Hid (zdR f (L.drop (k+xn)) (k+xn) m acc=.ok xs):=aA HSO.out
    have hpos:¬((k+xn:Nat):Int)<0:=by omega
    clear hv HSO HONw
    generalize hj:k+xn=j at *
    have HJ:=aA hj
    clear hj
    go_wp2_with fail
    refine HSKw.out.mono ?_;rintro _ w' ⟨rfl,rfl⟩
    go_wp2
    go_roundw
    case rel=>exact⟨f,j,m,acc,rfl,rfl,by have:=HJ.out;omega,HMK.out,by have:=HJ.out;omega,by have:=HJ.out;omega,HO.out,HB.out,HS2.out⟩
    case measure=>have:=HJ.out;simp[intOf];omega
   ·have hv:zcK k (xk,xn,0)=.tuple #[.int .i64 k,.bool false]:=zfv hk0
    rw[hv]at HSKw
    have HO1:=aA (HONw.out hk0)
    simp only at HO1
    have HMR:Hid (more acc k (xk,xn,0) (L.drop k)=acc++[⟨xk,aW xk ((L.drop k).take xn),k⟩]):=aA (by unfold more;rw[if_neg hk0])
    rw[HMR.out]at HSO
    have hpos:¬((k:Nat):Int)<0:=by omega
    clear hv HONw HMR hk0
    go_wp2_with fail
    refine HSKw.out.mono ?_;rintro _ w' ⟨rfl,rfl⟩
    go_wp2_with fail
    refine HO1.out.mono ?_;rintro _ w2 ⟨rfl,hb2⟩
    have HB2:=aA (HB.out.trans (hb2.mono HB.out.size))
    have HO2:=aA (HO.out.below hb2 (Nat.le_refl _))
    clear hb2 HO1 HSKw HO HB
    have HCE:Hid (∀o j u,(zav L ⟨xk,aW xk ((L.drop k).take xn),k⟩)[j]?=some u→((w2.alloc o).alloc (.cells #[.int .i64 xk,.string (K.str (aW xk ((L.drop k).take xn))),.complex .f64 (Fl.fl (Pl.pos (L.take k)).1) (Fl.fl (Pl.pos (L.take k)).2)] 122)).cell? ⟨w2.heap.size+1,j,none⟩=some u):=aA (by
     intro o j u hu
     have e:w2.heap.size+1=(w2.alloc o).heap.size:=by simp
     rw[e,World.cell?_alloc_new]
     simpa[zav] using hu)
    have HGW:=aA (fun o1 o2=>(HB2.out.alloc HB2.out.size o1).alloc (by have:=HB2.out.size;simp;omega) o2)
    rcases hk9:(xk==9) with _|_
    ·have HMK2:Hid (zaq m (xk,xn,0)=m):=aA (by unfold zaq;rw[if_neg (by simpa using hk9)])
     rw[HMK2.out]at HSO
     go_wp2_with (at_builtin;refine zdN rfl (.tmp 54) (.tmp 56) _ rfl Tryz.underlying82 L w.heap.size _ acc rfl ((HO2.out.alloc _).alloc _) _ 1 ⟨xk,aW xk ((L.drop k).take xn),k⟩ rfl (HCE.out _) (by omega) (by have:=HB2.out.size;simp;omega) ?_;intro v3 w3 ho3 hg3)
     have HB3:=aA (zan (HGW.out _ _) ((HO2.out.alloc _).alloc _) hg3 (by have:=HB2.out.size;simp;omega))
     have HO3:=aA ho3
     clear ho3 hg3
     go_roundw
     case rel=>exact⟨f,k+xn,m,acc++[⟨xk,aW xk ((L.drop k).take xn),k⟩],by go_num,rfl,by omega,by have:=HMK.out;omega,by omega,by simp;omega,HO3.out,HB3.out,HSO.out⟩
     case measure=>simp[intOf];omega
    ·have HMK2:Hid (zaq m (xk,xn,0)=m+1):=aA (by unfold zaq;rw[if_pos (by simpa using hk9)])
     rw[HMK2.out]at HSO
     go_wp2_with (at_builtin;refine zdN rfl (.tmp 54) (.tmp 56) _ rfl Tryz.underlying82 L w.heap.size _ acc rfl ((HO2.out.alloc _).alloc _) _ 1 ⟨xk,aW xk ((L.drop k).take xn),k⟩ rfl (HCE.out _) (by omega) (by have:=HB2.out.size;simp;omega) ?_;intro v3 w3 ho3 hg3)
     have HB3:=aA (zan (HGW.out _ _) ((HO2.out.alloc _).alloc _) hg3 (by have:=HB2.out.size;simp;omega))
     have HO3:=aA ho3
     clear ho3 hg3
     go_roundw
     case rel=>exact⟨f,k+xn,m+1,acc++[⟨xk,aW xk ((L.drop k).take xn),k⟩],by go_num,by go_num,by omega,by have:=HMK.out;omega,by omega,by simp;omega,HO3.out,HB3.out,HSO.out⟩
     case measure=>simp[intOf];omega
theorem bI.less5 {L:List Int} {w:World} {base base':Nat} {v:Value} {ds:List Y.Dcl} (h:bI L w base v ds) (hb:base'≤base):bI L w base' v ds:=by
 obtain⟨qs,h1,h2,h3⟩:=h
 refine⟨qs,h1,⟨h2.1,?_⟩,fun q hq=>(h3 q hq).less hb⟩
 rcases h2.2 with h0|⟨g,cap,cur,e,hb1,hr⟩
 ·exact .inl h0
 ·exact .inr ⟨g,cap,cur,e,by omega,hr⟩
theorem bG.less5 {L:List Int} {w:World} {base base':Nat} {v:Value} {ps:List Y.Prd} (h:bG L w base v ps) (hb:base'≤base):bG L w base' v ps:=by
 obtain⟨qs,h1,h2,h3⟩:=h
 refine⟨qs,h1,⟨h2.1,?_⟩,fun q hq=>(h3 q hq).less hb⟩
 rcases h2.2 with h0|⟨g,cap,cur,e,hb1,hr⟩
 ·exact .inl h0
 ·exact .inr ⟨g,cap,cur,e,by omega,hr⟩
theorem zbr {w:World} {g:Nat} {cs:Array Value} (h:w.heap[g]?=some (.cells cs 60 (0,0))):bA w (some g):=zac h (by decide)
theorem of8 (L:List Int) (A:Option Addr) (c px py:Nat) (ts:List Tok) (ds:List Y.Dcl) (ps:List Y.Prd) (m m2:List Tok) (t9:Tok) (w:World) (hr:RdT L w w.heap.size A ts) (hc:ts.length≤c) (h4:ts.length≤4000)
  (hd:Y.decls (ts.length+1) [] ts=.ok ds m) (hk:∀d∈ds,d.k=4∨d.k=5) (h9:Y.take [9] m=.ok t9 m2) (hg:Y.group [] m2=.ok ps []) :
  Calls Tryz.prog 61 #[.slice A ts.length c,.complex .f64 px py] w fun e w'=>∃dv pv,e=.returned (.tuple #[.agg #[dv,pv],.complex .f64 0 0,.int .i64 0])∧bI L w' w.heap.size dv ds∧bG L w' w.heap.size pv ps∧Below w.heap.size w w':=by
 have SC:=fun a w m X Y=>show(store a (.complex .f64 X Y) m).run Tryz.prog w=stored Tryz.prog w a (.complex .f64 X Y) m from run_store _ w a _ m rfl
 have BR:=fun A (n c:Nat) X Y w=>(run_build w 143 _ _ (by kernel_rfl):(Instr.build 143 #[(0,.slice A n c),(1,.complex .f64 X Y)]).run Tryz.prog w=.ok (.agg #[.slice A n c,.complex .f64 X Y,.complex .f64 0 0,.int .i64 0]) w)
 have BS:=fun A (n c:Nat) w=>(run_build w 60 _ _ (by kernel_rfl):(Instr.build 60 #[(0,.slice A n c)]).run Tryz.prog w=.ok (.agg #[.slice A n c,.slice none 0 0]) w)
 have HB0:=aA (((Below.refl w.heap.size w).alloc (Nat.le_refl _) (.cells #[.slice none 0 0,.slice none 0 0] 60)).alloc (by simp) (.cells #[.slice A ts.length c,.complex .f64 px py,.complex .f64 0 0,.int .i64 0] 143))
 have HR1:Hid (Rd8 L w.heap.size (w.heap.size+1) px py ((w.alloc (.cells #[.slice none 0 0,.slice none 0 0] 60)).alloc (.cells #[.slice A ts.length c,.complex .f64 px py,.complex .f64 0 0,.int .i64 0] 143)) ts):=aA ⟨A,c,by have:=heap_alloc_new (w.alloc (.cells #[.slice none 0 0,.slice none 0 0] 60)) (.cells #[.slice A ts.length c,.complex .f64 px py,.complex .f64 0 0,.int .i64 0] 143);rwa [show(w.alloc (.cells #[.slice none 0 0,.slice none 0 0] 60)).heap.size=w.heap.size+1 by simp]at this,hc,h4,hr.below HB0.out (Nat.le_refl _),by omega⟩
 have HD:=aA (fun(x:World) (B R:Nat) (h:Rd8 L B R px py x ts)=>zlg L B R px py (ts.length+1) ts ds m x h hd (by omega) hk)
 have H9:=aA (fun(x:World) (B R:Nat) (h:Rd8 L B R px py x m)=>zcQ L B R px py m 9 9 x h t9 m2 ((zbW 9 m).trans h9))
 have HG:=aA (fun(x:World) (B R:Nat) (h:Rd8 L B R px py x m2)=>zlb L B R px py m2 ps [] x h hg)
 unfold bK at H9
 clear hr hc h4 hd hk h9 hg
 go_enter Tryz.func61,Tryz.ntmps61
 go_wp2_with fail
 refine(HD.out _ _ _ HR1.out).mono ?_;rintro _ w2 ⟨hg2,v2,rfl,ho2,hr2⟩
 have hz0:=aK hg2 ((Below.block (B:=w.heap.size+1) ((Below.refl _ (w.alloc (.cells #[.slice none 0 0,.slice none 0 0] 60))).alloc (by simp) (.cells #[.slice A ts.length c,.complex .f64 px py,.complex .f64 0 0,.int .i64 0] 143)) w.heap.size (by omega)).trans (heap_alloc_new w _)) (by omega)
 obtain⟨A2,c2,rfl,_,_⟩:=ho2.form
 have HG2:=aA hg2
 have hs2:w.heap.size+2≤w2.heap.size:=by have:=hg2.size;simpa using this
 have HO2:=aA ho2
 have HRO:=aA hr2.other
 have HR2:=aA (hr2.alloc (.cells #[.slice A2 ds.length c2,.slice none 0 0] 60))
 have HZ2:=aA ((Below.heap_alloc w2 (.cells #[.slice A2 ds.length c2,.slice none 0 0] 60) w.heap.size (by omega)).trans hz0)
 clear hg2 ho2 hr2 hz0
 go_wp2_with fail
 refine(H9.out _ _ _ HR2.out).mono ?_;rintro _ w3 ⟨rfl,hg3,hr3⟩
 have HG3:=aA hg3
 have HR3:=aA hr3
 have HZ3:=aA (aK hg3 HZ2.out (by omega))
 have HB3:=aA (zbL hg3 (by omega:w.heap.size+1<w2.heap.size))
 clear hg3 hr3
 go_wp2_with fail
 refine(HG.out _ _ _ HR3.out).mono ?_;rintro _ w4 ⟨hg4,v4,rfl,ho4,hr4⟩
 obtain⟨A4,c4,rfl,_,_⟩:=ho4.form
 have hs3:w2.heap.size+1≤w3.heap.size:=by have:=HG3.out.size;simpa using this
 have hs4:w3.heap.size≤w4.heap.size:=hg4.size
 have hb4:=aK hg4 HB3.out (by omega)
 have hz4:=aK hg4 HZ3.out (by omega)
 have HGA:=aA ((aC HG2.out (.cells #[.slice A2 ds.length c2,.slice none 0 0] 60)).trans (HG3.out.trans hg4))
 have b0:=cell_of_row w4 _ 0 _ _ _ hb4
 have b1:=cell_of_row w4 _ 1 _ _ _ hb4
 have fb1:=frozen_of_row w4 _ 1 _ _ hb4
 have z0:=cell_of_row w4 _ 0 _ _ _ hz4
 have z1:=cell_of_row w4 _ 1 _ _ _ hz4
 have fz0:=frozen_of_row w4 _ 0 _ _ hz4
 have fz1:=frozen_of_row w4 _ 1 _ _ hz4
 have hRl:=hr4.lt
 have HO4:=aA ho4
 have HOD4:=aA (HO2.out.grown ((aC (World.grownBy.refl w2 (some (w.heap.size+1))) (.cells #[.slice A2 ds.length c2,.slice none 0 0] 60)).trans (HG3.out.trans hg4)) ⟨HRO.out,by obtain⟨z,hz⟩:=HO2.out.own;simp at hz;exact zaT hz (by omega)⟩)
 have HW5:∃w5:World,w5=w4.setCell ⟨w2.heap.size,1,none⟩ (.slice A4 ps.length c4):=⟨_,rfl⟩
 obtain⟨w5,hw5⟩:=HW5
 have hb5:w5.heap[w2.heap.size]?=some (.cells #[.slice A2 ds.length c2,.slice A4 ps.length c4] 60 (0,0)):=by rw[hw5,heap_setCell_same w4 _ 1 _ _ _ hb4];rfl
 have hz5:w5.heap[w.heap.size]?=some (.cells #[.slice none 0 0,.slice none 0 0] 60 (0,0)):=by rw[hw5,Below.heap_setCell _ _ _ _ (by simp only;omega)];exact hz4
 have HR5:Hid (Rd8 L w.heap.size (w.heap.size+1) px py w5 []):=aA (by rw[hw5];exact hr4.far _ _ _ (by omega))
 have HOD5:Hid (bI L w5 (w.heap.size+2) (.slice A2 ds.length c2) ds):=aA (by rw[hw5];have h:=HOD4.out.grown (aD (World.grownBy.refl w4 (some w2.heap.size)) 1 (.slice A4 ps.length c4)) ⟨zbr hb4,by obtain⟨z,hz⟩:=HOD4.out.own;exact aN hz hb4 (fun cur e=>by injection e with _ e;exact absurd e (by decide))⟩;simpa using h)
 have HOP5:Hid (bG L w5 w3.heap.size (.slice A4 ps.length c4) ps):=aA (by rw[hw5];exact ho4.grown (aD (World.grownBy.refl w4 (some w2.heap.size)) 1 (.slice A4 ps.length c4)) ⟨zbr hb4,by obtain⟨z,hz⟩:=ho4.own;exact aN hz hb4 (fun cur e=>by injection e with _ e;exact absurd e (by decide))⟩)
 have HBW:Hid (Below w.heap.size w w5):=aA (by
  rw[hw5]
  refine Below.setCell ?_ (p:=⟨w2.heap.size,1,none⟩) (by simp only;omega) _
  exact HB0.out.grown HGA.out (by simp;omega) (fun k e=>by injection e with e;omega))
 clear hg4 ho4 hr4
 go_wp2_with fail
 rw[←hw5]
 have p0:=cell_of_row w5 _ 0 _ _ _ hb5
 have p1:=cell_of_row w5 _ 1 _ _ _ hb5
 have y0:=cell_of_row w5 _ 0 _ _ _ hz5
 have y1:=cell_of_row w5 _ 1 _ _ _ hz5
 have gz0:=frozen_of_row w5 _ 0 _ _ hz5
 have gz1:=frozen_of_row w5 _ 1 _ _ hz5
 obtain⟨A6,c6,r0,r3,_⟩:=HR5.out.cell0
 have hsz5:w.heap.size<w5.heap.size:=(Array.getElem?_eq_some_iff.1 hz5).1
 have hsb5:w2.heap.size<w5.heap.size:=(Array.getElem?_eq_some_iff.1 hb5).1
 have HZ5:=aA hz5
 clear hw5 hb5 hz5 b0 b1 fb1 z0 z1 fz0 fz1 hb4 hz4 HO4 HOD4
 go_loopw [] (fun wt=>w5=wt) (fun _=>0)
 case atStart=>exact rfl
 case round =>
  obtain rfl:=hrel
  go_wp2
  have hgf:=aD (aD (World.grownBy.refl w5 (some w.heap.size)) 0 (.slice A2 ds.length c2)) 1 (.slice A4 ps.length c4)
  refine bodyPost_ret (v:=.tuple #[.agg #[.slice A2 ds.length c2,.slice A4 ps.length c4],.complex .f64 0 0,.int .i64 0]) (by simp[results,Tryz.results61,go_sem,y0,y1]) rfl ⟨_,_,rfl,?_,?_,?_⟩
  ·exact(HOD5.out.grown hgf ⟨zbr HZ5.out,by obtain⟨z,hz⟩:=HOD5.out.own;exact zaT hz (by omega)⟩).less5 (by omega)
  ·exact(HOP5.out.grown hgf ⟨zbr HZ5.out,by obtain⟨z,hz⟩:=HOP5.out.own;exact zaT hz (by omega)⟩).less5 (by omega)
  ·exact HBW.out.grown hgf HBW.out.size (fun k e=>by injection e with e;omega)
def intE:Mw.Enc Tryz.prog 3 Int where
 enc z:=.int .i64 z
 ok:=Gm.In
 key z h:=⟨_,Maps.keyOf_int_mk Tryz.underlying3 (WalkArith.wf_i64 (by unfold Gm.In at h;omega))⟩
 inj x y _ _ h:=by injection h
theorem zlG:Maps.Keyed Tryz.prog 3:=Maps.int_keyed Tryz.underlying3
def asB (t:Gm.Tm):Bool:=if t.wy=0 then t.lv==0 else if t.wy=1∨t.wy=2∨t.wy=3 then decide (0<t.lv) else false
theorem zcO (t:Gm.Tm) (w:World) :
  Calls Tryz.prog 68 #[.agg #[.string (K.str t.nm),.int .i64 t.lv,.int .i64 t.wy]] w fun e w'=>e=.returned (.bool (asB t))∧Below w.heap.size w w':=by
 have HB:=aA (fun o=>(Below.refl w.heap.size w).alloc (Nat.le_refl _) o)
 obtain⟨nm,lv,wy⟩:=t
 unfold asB
 simp only
 generalize K.str nm=s at *
 by_cases h0:wy=0
 ·subst h0
  rw[if_pos rfl]
  go_enter Tryz.func68,Tryz.ntmps68
  go_wp2
  go_ret
  exact⟨rfl,HB.out _⟩
 rw[if_neg h0]
 by_cases h1:wy=1
 ·subst h1
  rw[if_pos (by simp)]
  go_enter Tryz.func68,Tryz.ntmps68
  go_wp2
  go_ret
  exact⟨rfl,HB.out _⟩
 by_cases h2:wy=2
 ·subst h2
  rw[if_pos (by simp)]
  go_enter Tryz.func68,Tryz.ntmps68
  go_wp2
  go_ret
  exact⟨rfl,HB.out _⟩
 by_cases h3:wy=3
 ·subst h3
  rw[if_pos (by simp)]
  go_enter Tryz.func68,Tryz.ntmps68
  go_wp2
  go_ret
  exact⟨rfl,HB.out _⟩
 rw[if_neg (by omega)]
 have e0:(wy==0)=false:=beq_eq_false_iff_ne.2 h0
 have e1:(wy==1)=false:=beq_eq_false_iff_ne.2 h1
 have e2:(wy==2)=false:=beq_eq_false_iff_ne.2 h2
 have e3:(wy==3)=false:=beq_eq_false_iff_ne.2 h3
 go_enter Tryz.func68,Tryz.ntmps68
 go_wp2
 go_ret
 exact⟨rfl,HB.out _⟩
def zeq (m:List (Int×Int)) (t:Gm.Tm):List (Int×Int):=if 0<t.lv then(if Mw.asc m t.lv=none then m++[(t.lv,t.wy)] else m) else m
def rlF:List Gm.Tm→List (Int×Int)→Int→Bool
 | [],m,g=>(m.length:Int)==g
 | t::r,m,g=>if asB t=false then false else if(Mw.asc m t.lv).isSome=true∧(Mw.asc m t.lv).getD 0≠t.wy then false else rlF r (zeq m t) (max g t.lv)
theorem ziV {ts:List Gm.Tm} {k:Nat} (h:k<ts.length) (m:List (Int×Int)) (g:Int):rlF (ts.drop k) m g=if asB ts[k]=false then false else if(Mw.asc m ts[k].lv).isSome=true∧(Mw.asc m ts[k].lv).getD 0≠ts[k].wy then false else rlF (ts.drop (k+1)) (zeq m ts[k]) (max g ts[k].lv):=by
 rw[List.drop_eq_getElem_cons h,rlF]
theorem zkg {ts:List Gm.Tm} {k:Nat} (h:ts.length≤k) (m:List (Int×Int)) (g:Int):rlF (ts.drop k) m g=((m.length:Int)==g):=by
 rw[List.drop_eq_nil_of_le h,rlF]
def lvL (m:List (Int×Int)):List (Int×Value):=m.map fun p=>(p.1,.int .i64 p.2)
theorem zfi (m:List (Int×Int)) (z:Int):Mw.asc (lvL m) z=(Mw.asc m z).map (fun y=>.int .i64 y):=by
 unfold lvL
 induction m with
 | nil=>rfl
 | cons p r ih =>
  obtain⟨k,v⟩:=p
  rw[List.map_cons,Mw.asc,Mw.asc,ih]
  by_cases h:k=z
  ·rw[if_pos h,if_pos h];rfl
  ·rw[if_neg h,if_neg h]
theorem zfK (m:List (Int×Int)) (z:Int):(Mw.asc (lvL m) z).getD (.int .i64 0)=.int .i64 ((Mw.asc m z).getD 0)∧(Mw.asc (lvL m) z).isSome=(Mw.asc m z).isSome:=by
 rw[zfi]
 cases Mw.asc m z <;> exact⟨rfl,rfl⟩
theorem zaP (w:World):(zeroValue 3).run Tryz.prog w=.ok (.int .i64 0) w:=by kernel_rfl
theorem zcn (A:Option Addr) (c B:Nat) (ts:List Gm.Tm) (w:World) (ht:zgS w B A ts) (hf:∀x∈ts,K.Tx x.nm∧Gm.In x.lv∧Gm.In x.wy) (hB:B≤w.heap.size) (hlen:(ts.length:Int)≤9223372036854775807) :
  Calls Tryz.prog 36 #[.slice A ts.length c] w fun e w'=>e=.returned (.bool (rlF ts [] 0))∧Below w.heap.size w w':=by
 have HT:=aA ht
 have HF:=aA hf
 have hmm:=@run_makeMap Tryz.prog
 have HM0:=aA (Mw.MapIs.made intE w)
 have HS0:=aA ((Below.refl w.heap.size w).alloc (Nat.le_refl _) (.map #[] 0))
 clear ht hf
 go_enter Tryz.func36,Tryz.ntmps36
 go_wp2
 go_loopw [4,12] (fun vg vi wr=>∃(k:Nat) (m:List (Int×Int)) (g:Int),k≤ts.length∧vi=.int .i64 k∧vg=.int .i64 g∧Hid (rlF ts [] 0=rlF (ts.drop k) m g)∧Below w.heap.size w wr∧Hid (Mw.MapIs intE wr w.heap.size (lvL m))) (fun _ vi _=>ts.length-(intOf vi).toNat)
 case atStart=>exact⟨0,[],0,Nat.zero_le _,rfl,rfl,aA rfl,HS0.out,HM0⟩
 case round =>
  obtain⟨k,m,g,hk,rfl,rfl,HE,hb,HM⟩:=hrel
  have HB:=aA hb
  have hz:w.heap.size<wr.heap.size:=HM.out.lt
  by_cases hlt:k<ts.length
  ·obtain⟨gb,o,rfl,hgb,hc⟩:=HT.out (by omega)
   have k0:=(hb.cell (p:=⟨gb,o+k*3,none⟩) (Nat.lt_of_lt_of_le hgb hB)).trans (hc k hlt).1
   have k1:=(hb.cell (p:=⟨gb,o+k*3+1,none⟩) (Nat.lt_of_lt_of_le hgb hB)).trans (hc k hlt).2.1
   have k2:=(hb.cell (p:=⟨gb,o+k*3+2,none⟩) (Nat.lt_of_lt_of_le hgb hB)).trans (hc k hlt).2.2
   have hgs:gb<wr.heap.size:=by omega
   have hft:=(HF.out _ (List.getElem_mem hlt)).2
   have HIN:=aA hft
   have HAS:=aA (fun x=>zcO ts[k] x)
   have HR:=aA (ziV hlt m g)
   clear hc hft
   generalize ts[k]=t at *
   obtain⟨nm,lv,wy⟩:=t
   simp only at k0 k1 k2 HIN HAS HR
   have HM1:=aA (HM.out.kept (World.grownBy_alloc wr (.cells #[.string (K.str nm),.int .i64 lv,.int .i64 wy] 51) none) (by simp))
   have HLK:=Mw.run_look (x:=lv) HM1.out zlG Tryz.underlying106 (zaP _) HIN.out.1 true
   rw[if_pos rfl,(zfK m lv).1,(zfK m lv).2]at HLK
   have HLK':(Instr.lookup 106 (.map (some w.heap.size)) (.int .i64 lv) true).run Tryz.prog (wr.alloc (.cells #[.string (K.str nm),.int .i64 lv,.int .i64 wy] 51))=.ok (.tuple #[.int .i64 ((Mw.asc m lv).getD 0),.bool (Mw.asc m lv).isSome]) (wr.alloc (.cells #[.string (K.str nm),.int .i64 lv,.int .i64 wy] 51)):=HLK
   have HBA:=aA (fun o=>HB.out.alloc HB.out.size o)
   clear HLK hb
   generalize qa:asB ⟨nm,lv,wy⟩=ba at *
   clear qa
   cases ba
   ·have HX:=aA (HE.out.trans (HR.out.trans (if_pos rfl)))
    go_wp2_with fail
    refine(HAS.out _).mono ?_;rintro _ w2 ⟨rfl,hb2⟩
    have HB2:=aA ((HBA.out _).trans (hb2.mono (HBA.out _).size))
    clear hb2
    go_wp2
    go_ret
    exact⟨aG HX.out.symm,HB2.out⟩
   have HR1:=aA (HE.out.trans (HR.out.trans (if_neg (by simp))))
   have HSO:Hid (¬((Mw.asc m lv).isSome=true∧(Mw.asc m lv).getD 0≠wy)→Mw.asc (lvL m) lv=none∨Mw.asc (lvL m) lv=some (.int .i64 wy)):=aA (fun h=>by
    rw[zfi]
    cases q:Mw.asc m lv with
    | none=>exact .inl rfl
    | some y =>
     rw[q]at h
     have:y=wy:=Classical.byContradiction fun n=>h ⟨rfl,n⟩
     rw[this];exact .inr rfl)
   have HPUT:Hid (¬0<lv→zeq m ⟨nm,lv,wy⟩=m):=aA (fun h=>by unfold zeq;rw[if_neg h])
   have HPUT2:Hid (0<lv→lvL (zeq m ⟨nm,lv,wy⟩)=if Mw.asc (lvL m) lv=none then lvL m++[(lv,.int .i64 wy)] else lvL m):=aA (fun h=>by
    unfold zeq
    rw[if_pos h,zfi]
    cases q:Mw.asc m lv with
    | none=>simp[lvL]
    | some y=>simp)
   by_cases h2:(Mw.asc m lv).isSome=true∧(Mw.asc m lv).getD 0≠wy
   ·have HX:=aA (HR1.out.trans (if_pos h2))
    obtain⟨h3,h4⟩:=h2
    rw[h3]at HLK'
    have h5:((Mw.asc m lv).getD 0 != wy)=true:=by simpa using h4
    clear h3 h4 HSO
    generalize (Mw.asc m lv).getD 0=zs at *
    go_wp2_with fail
    refine(HAS.out _).mono ?_;rintro _ w2 ⟨rfl,hb2⟩
    have HB2:=aA ((HBA.out _).trans (hb2.mono (HBA.out _).size))
    have hbb:=(hb2.block wr.heap.size (by simp)).trans (heap_alloc_new wr _)
    have hz2:wr.heap.size<w2.heap.size:=(Array.getElem?_eq_some_iff.1 hbb).1
    have f1:=cell_of_row w2 _ 1 _ _ _ hbb
    have f2:=cell_of_row w2 _ 2 _ _ _ hbb
    clear hb2 hbb
    go_wp2
    go_ret
    exact⟨aG HX.out.symm,HB2.out⟩
   ·have HX:=aA (HR1.out.trans (if_neg h2))
    have HSS:=aA (HSO.out h2)
    have h3:((Mw.asc m lv).isSome&&((Mw.asc m lv).getD 0 != wy))=false:=by
     cases q:(Mw.asc m lv).isSome
     ·rfl
     ·rw[Bool.true_and]
      by_cases q2:(Mw.asc m lv).getD 0=wy
      ·rw[q2];simp
      ·exact absurd ⟨q,q2⟩ h2
    generalize qs:(Mw.asc m lv).isSome=kn at HLK' h3
    generalize qg:(Mw.asc m lv).getD 0=zs at HLK' h3
    clear h2 qs qg HSO HR1 HR HE
    by_cases hp:0<lv
    ·have HP:=aA (HPUT2.out hp)
     cases kn
     ·go_wp2_with fail
      refine(HAS.out _).mono ?_;rintro _ w2 ⟨rfl,hb2⟩
      have HB2:=aA ((HBA.out _).trans (hb2.mono (HBA.out _).size))
      have hbb:=(hb2.block wr.heap.size (by simp)).trans (heap_alloc_new wr _)
      have hz2:wr.heap.size<w2.heap.size:=(Array.getElem?_eq_some_iff.1 hbb).1
      have f1:=cell_of_row w2 _ 1 _ _ _ hbb
      have f2:=cell_of_row w2 _ 2 _ _ _ hbb
      have HM2:=aA (HM1.out.kept (aQ hb2 none) (by simp))
      have HBC:=aA (fun(x:World) (h:w2.grownBy x (some w.heap.size))=>(cell_of_row x _ 1 _ _ _ ((h.block wr.heap.size hz2 (fun e=>by injection e with e;omega)).trans hbb)))
      clear hb2 hbb
      have HST:=aA (Mw.run_store (x:=lv) HM2.out zlG Tryz.underlying106 HIN.out.1 (.int .i64 wy) HSS.out)
      rw[←HP.out]at HST
      clear HLK'
      go_wp2_with (at_mapUpdate;refine Mw.wpList_store rfl _ _ _ _ rfl HST.out rfl rfl rfl ?_;rintro w3 ⟨hm3,hg3⟩;have f3:=HBC.out _ hg3)
      have HB3:=aA (Below.grown HB2.out hg3 HB2.out.size (fun k e=>by injection e with e;omega))
      have HM3:=aA hm3
      clear hm3 hg3
      go_roundw
      case rel=>exact⟨k+1,_,_,by omega,by go_num,rfl,HX,HB3.out,HM3⟩
      case measure=>simp[intOf];omega
     ·have h4:(zs != wy)=false:=by simpa using h3
      clear h3
      go_wp2_with fail
      refine(HAS.out _).mono ?_;rintro _ w2 ⟨rfl,hb2⟩
      have HB2:=aA ((HBA.out _).trans (hb2.mono (HBA.out _).size))
      have hbb:=(hb2.block wr.heap.size (by simp)).trans (heap_alloc_new wr _)
      have hz2:wr.heap.size<w2.heap.size:=(Array.getElem?_eq_some_iff.1 hbb).1
      have f1:=cell_of_row w2 _ 1 _ _ _ hbb
      have f2:=cell_of_row w2 _ 2 _ _ _ hbb
      have HM2:=aA (HM1.out.kept (aQ hb2 none) (by simp))
      have HBC:=aA (fun(x:World) (h:w2.grownBy x (some w.heap.size))=>(cell_of_row x _ 1 _ _ _ ((h.block wr.heap.size hz2 (fun e=>by injection e with e;omega)).trans hbb)))
      clear hb2 hbb
      have HST:=aA (Mw.run_store (x:=lv) HM2.out zlG Tryz.underlying106 HIN.out.1 (.int .i64 wy) HSS.out)
      rw[←HP.out]at HST
      clear HLK'
      go_wp2_with (at_mapUpdate;refine Mw.wpList_store rfl _ _ _ _ rfl HST.out rfl rfl rfl ?_;rintro w3 ⟨hm3,hg3⟩;have f3:=HBC.out _ hg3)
      have HB3:=aA (Below.grown HB2.out hg3 HB2.out.size (fun k e=>by injection e with e;omega))
      have HM3:=aA hm3
      clear hm3 hg3
      go_roundw
      case rel=>exact⟨k+1,_,_,by omega,by go_num,rfl,HX,HB3.out,HM3⟩
      case measure=>simp[intOf];omega
    ·have HP:=aA (HPUT.out hp)
     have hp':=Int.not_lt.1 hp
     clear hp
     cases kn
     ·go_wp2_with fail
      refine(HAS.out _).mono ?_;rintro _ w2 ⟨rfl,hb2⟩
      have HB2:=aA ((HBA.out _).trans (hb2.mono (HBA.out _).size))
      have hbb:=(hb2.block wr.heap.size (by simp)).trans (heap_alloc_new wr _)
      have hz2:wr.heap.size<w2.heap.size:=(Array.getElem?_eq_some_iff.1 hbb).1
      have f1:=cell_of_row w2 _ 1 _ _ _ hbb
      have f2:=cell_of_row w2 _ 2 _ _ _ hbb
      have HM2:=aA (HM1.out.kept (aQ hb2 none) (by simp))
      clear hb2 hbb
      rw[HP.out]at HX
      clear HLK'
      go_wp2
      go_roundw
      case rel=>exact⟨k+1,_,_,by omega,by go_num,rfl,HX,HB2.out,HM2⟩
      case measure=>simp[intOf];omega
     ·have h4:(zs != wy)=false:=by simpa using h3
      clear h3
      go_wp2_with fail
      refine(HAS.out _).mono ?_;rintro _ w2 ⟨rfl,hb2⟩
      have HB2:=aA ((HBA.out _).trans (hb2.mono (HBA.out _).size))
      have hbb:=(hb2.block wr.heap.size (by simp)).trans (heap_alloc_new wr _)
      have hz2:wr.heap.size<w2.heap.size:=(Array.getElem?_eq_some_iff.1 hbb).1
      have f1:=cell_of_row w2 _ 1 _ _ _ hbb
      have f2:=cell_of_row w2 _ 2 _ _ _ hbb
      have HM2:=aA (HM1.out.kept (aQ hb2 none) (by simp))
      clear hb2 hbb
      rw[HP.out]at HX
      clear HLK'
      go_wp2
      go_roundw
      case rel=>exact⟨k+1,_,_,by omega,by go_num,rfl,HX,HB2.out,HM2⟩
      case measure=>simp[intOf];omega
  ·obtain rfl:k=ts.length:=by omega
   have hL:=Mw.run_len HM.out Tryz.underlying106 3
   have HX:=aA (HE.out.trans (zkg (Nat.le_refl _) m g))
   rw[show(lvL m).length=m.length by simp[lvL]]at hL
   generalize m.length=q at *
   clear hb
   go_wp2_with (simp only[hL])
   go_ret
   exact⟨aG HX.out.symm,HB.out⟩
def TmA (S:St) (s:List Int):Int×Int×St :=
 if 0≤Gm.find (Gm.names S.s.ts) s then(Gm.find (Gm.names S.s.ts) s,0,S) else if S.s.ts.length=24 then(0,5,S) else(S.s.ts.length,0,{S with s:={S.s with ts:=S.s.ts++[⟨s,0,0⟩]} })
theorem zdB {w:World} {Ms:Nat} {ml:List (List Int×Value)} {ts:List Gm.Tm} {ns:List (List Int)} (h:Mw.MapIs bT w Ms ml) (hs:zby ml ts ns) (s:List Int) (hx:K.Tx s):(Instr.lookup 87 (.map (some Ms)) (.string (K.str s)) true).run Tryz.prog w=.ok (.tuple #[(bL ts ns s).getD (.int .i64 0),.bool (bL ts ns s).isSome]) w:=by
 have:=Mw.run_look (x:=s) h zgU Tryz.underlying87 (zaP w) hx true
 rw[if_pos rfl,hs s]at this
 exact this
theorem zjv (s:ByteArray) (w:World):(Instr.build 51 #[(0,.string s)]).run Tryz.prog w=.ok (.agg #[.string s,.int .i64 0,.int .i64 0]) w:=run_build w 51 _ _ (by kernel_rfl)
theorem zgX (w:World):(zeroValue 4).run Tryz.prog w=.ok (.bool false) w:=by kernel_rfl
theorem zjf {w:World} {Mt:Nat} {tl:List (List Int×Value)} {tk:List (List Int)} (h:Mw.MapIs bT w Mt tl) (hs:ziB tl tk) (s:List Int) (hx:K.Tx s):(Instr.lookup 88 (.map (some Mt)) (.string (K.str s)) false).run Tryz.prog w=.ok (.bool (decide (s∈tk))) w:=by
 have:=Mw.run_look (x:=s) h zgU Tryz.underlying88 (zgX w) hx false
 rw[if_neg (by simp),hs s]at this
 by_cases hm:s∈tk
 ·rw[if_pos hm]at this;rw[decide_eq_true hm];exact this
 ·rw[if_neg hm]at this;rw[decide_eq_false hm];exact this
theorem zcb (L:List Int) (B N R:Nat) (S:St) (s:List Int) (w:World) (hb:Bld L w B N R S) (hs:K.Tx s) (hn:Gm.find S.ns s<0) (hB:B≤w.heap.size) (hlt:S.s.ts.length≤24) :
  Calls Tryz.prog 172 #[.pointer (some ⟨R,0,none⟩),.string (K.str s)] w fun e w'=>e=.returned (.tuple #[.int .i64 (TmA S s).1,.int .i64 (TmA S s).2.1])∧Bld L w' B N R (TmA S s).2.2∧Below B w w'∧aJ w w':=by
 have HBL:=aA hb
 obtain⟨vT,vN,vR,Ms,Mt,ml,tl,h⟩:=hb
 have HH:=aA h
 have hlk:=zdB h.w.ms h.so s hs
 obtain⟨AT,cT,rfl,_,_⟩:=aU h.w.t
 have c0:w.cell? ⟨R,0,none⟩=some (.slice AT S.s.ts.length cT):=cell_of_row w R 0 _ _ _ h.w.b
 have c4:w.cell? ⟨R,4,none⟩=some (.map (some Ms)):=cell_of_row w R 4 _ _ _ h.w.b
 have hRs:=(Array.getElem?_eq_some_iff.1 h.w.b).1
 have HLT:=aA hlt
 clear h
 by_cases h1:0≤Gm.find (Gm.names S.s.ts) s
 ·have HE:Hid (TmA S s=(Gm.find (Gm.names S.s.ts) s,0,S)):=aA (by unfold TmA;rw[if_pos h1])
  have he:bL S.s.ts S.ns s=some (.int .i64 (Gm.find (Gm.names S.s.ts) s)):=by unfold bL;rw[if_pos h1]
  rw[he]at hlk
  simp only[Option.getD_some,Option.isSome_some]at hlk
  rw[HE.out]
  clear h1 he hn hlt
  generalize Gm.find (Gm.names S.s.ts) s=z at *
  go_enter Tryz.func172,Tryz.ntmps172
  go_wp2
  go_ret2
  exact⟨rfl,HBL.out,Below.refl _ _,aJ.refl _⟩
 have he:bL S.s.ts S.ns s=none:=za3 (by omega) hn
 rw[he]at hlk
 simp only[Option.getD_none,Option.isSome_none]at hlk
 by_cases h2:S.s.ts.length=24
 ·have HE:Hid (TmA S s=(0,5,S)):=aA (by unfold TmA;rw[if_neg h1,if_pos h2])
  have e2:((S.s.ts.length:Int)==24)=true:=beq_iff_eq.2 (by omega)
  rw[HE.out]
  clear h1 h2 he hn hlt
  go_enter Tryz.func172,Tryz.ntmps172
  go_wp2
  go_ret2
  exact⟨rfl,HBL.out,Below.refl _ _,aJ.refl _⟩
 have HE:Hid (TmA S s=((S.s.ts.length:Int),0,{S with s:={S.s with ts:=S.s.ts++[⟨s,0,0⟩]} })):=aA (by unfold TmA;rw[if_neg h1,if_neg h2])
 have e2:((S.s.ts.length:Int)==24)=false:=beq_eq_false_iff_ne.2 (by omega)
 have HSO:=aA (fun(h:zby ml S.s.ts S.ns)=>h.term (s:=s) (by omega) hn 0 0)
 have HNO:Hid (Mw.asc ml s=none):=aA (by rw[HH.out.so s];exact he)
 have HST:=aA (Mw.run_store (x:=s) HH.out.w.ms zgU Tryz.underlying87 hs (.int .i64 (S.s.ts.length:Int)) (.inl HNO.out))
 rw[if_pos HNO.out]at HST
 have HC1:=aA (fun(w1:World) (hm:Mw.MapIs bT w1 Ms (ml++[(s,.int .i64 (S.s.ts.length:Int))])) (hg:w.grownBy w1 (some Ms))=>HH.out.w.ms_put hm hg)
 have HC2:=aA (fun(w1:World) (hm:Mw.MapIs bT w1 Ms (ml++[(s,.int .i64 (S.s.ts.length:Int))])) (hg:w.grownBy w1 (some Ms))=>(⟨cell_of_row w1 R 0 _ _ _ (HC1.out w1 hm hg).b,(Array.getElem?_eq_some_iff.1 (HC1.out w1 hm hg).b).1⟩:w1.cell? ⟨R,0,none⟩=some (.slice AT S.s.ts.length cT)∧R<w1.heap.size))
 have HBL2:Hid (S.s.ts.length≤24):=HLT
 have RB:=fun w=>zjv (K.str s) w
 rw[HE.out]
 have hMs:=HH.out.w.hs
 have hMl:=HH.out.w.ms.lt
 clear h1 h2 he hn hlt
 go_enter Tryz.func172,Tryz.ntmps172
 go_wp2_with (first|(at_mapUpdate;refine Mw.wpList_store rfl _ _ _ _ rfl HST.out rfl rfl rfl ?_;rintro w1 ⟨hm1,hg1⟩;obtain⟨hk1,hs1⟩:=HC2.out w1 hm1 hg1)|(refine zjA rfl (.tmp 39) (.tmp 42) _ rfl Tryz.underlying22 B _ S.s.ts rfl ((HC1.out _ hm1 hg1).alloc _).t _ _ ⟨s,0,0⟩ rfl (fun j u hj=>(aH _ (tmC ⟨s,0,0⟩) _ j).trans hj) (by have:=HBL2.out;omega) (by have:=hg1.size;simp;omega) ?_;intro v3 w3 ho3 hg3;obtain⟨A3,n3,c3,rfl⟩:=zab ho3;obtain⟨hk3,hf3,hs3⟩:=((HC1.out _ hm1 hg1).alloc _).tm_at ho3 hg3))
 go_ret2
 have a0:=(HC1.out _ hm1 hg1).alloc (.cells (tmC ⟨s,0,0⟩).toArray 51)
 have a1:=a0.tm_put ho3 hg3
 have a2:=a1.set 0 (.slice A3 n3 c3)
 have hb1:Below B w w1:=zcF hg1 (fun k e=>by injection e with e;omega) hB
 have hb2:Below B w w3:=(hb1.alloc (Nat.le_trans hB hb1.size) (.cells (tmC ⟨s,0,0⟩).toArray 51)).grown hg3 (by have:=hb1.size;simp;omega) (fun k e=>(aF a0.t e).1)
 refine⟨rfl,⟨.slice A3 n3 c3,vN,vR,Ms,Mt,_,tl,⟨a2,HSO.out HH.out.so,HH.out.ko⟩⟩,hb2.setCell a1.hR _,?_⟩
 exact((aJ.map hg1 HH.out.w.ms).trans (aJ.below ((Below.refl _ _).alloc (Nat.le_refl _) _))).trans ((aJ.own a0.t hg3).trans (aJ.cells (aD (World.grownBy.refl _ _) 0 _) a1.b (.inl rfl)))
def SyA (S:St) (s:List Int):Int×Int×St :=
 if 0≤Gm.find (Gm.names S.s.ts) s then(Gm.find (Gm.names S.s.ts) s,0,S) else if 0≤Gm.find S.ns s then(-1-Gm.find S.ns s,0,S)
 else if T.isLit s=true∨s=[101,114,114,111,114] then TmA S s else(0,6,S)
theorem zii {s:List Int} (h:s=[101,114,114,111,114]):((K.str s).toList==[101,114,114,111,114])=true:=zap h
theorem zjp {s:List Int} (hb:K.Bytes s) (h:¬s=[101,114,114,111,114]):((K.str s).toList==[101,114,114,111,114])=false:=zaG hb (by intro z hz;simp at hz;omega) h
theorem zcR (L:List Int) (B N R:Nat) (S:St) (s:List Int) (w:World) (hb:Bld L w B N R S) (hs:K.Tx s) (hnm:Gm.named s=true) (hB:B≤w.heap.size) (hlt:S.s.ts.length≤24) :
  Calls Tryz.prog 161 #[.pointer (some ⟨R,0,none⟩),.string (K.str s)] w fun e w'=>e=.returned (.tuple #[.int .i64 (SyA S s).1,.int .i64 (SyA S s).2.1])∧Bld L w' B N R (SyA S s).2.2∧Below B w w'∧aJ w w':=by
 have HBL:=aA hb
 obtain⟨vT,vN,vR,Ms,Mt,ml,tl,h⟩:=id hb
 have hlk:=zdB h.w.ms h.so s hs
 have c4:w.cell? ⟨R,4,none⟩=some (.map (some Ms)):=cell_of_row w R 4 _ _ _ h.w.b
 have hRs:=(Array.getElem?_eq_some_iff.1 h.w.b).1
 clear h
 by_cases h1:0≤Gm.find (Gm.names S.s.ts) s
 ·have HE:Hid (SyA S s=(Gm.find (Gm.names S.s.ts) s,0,S)):=aA (by unfold SyA;rw[if_pos h1])
  have he:bL S.s.ts S.ns s=some (.int .i64 (Gm.find (Gm.names S.s.ts) s)):=by unfold bL;rw[if_pos h1]
  rw[he]at hlk
  simp only[Option.getD_some,Option.isSome_some]at hlk
  rw[HE.out]
  clear h1 he hlt hb
  generalize Gm.find (Gm.names S.s.ts) s=z at *
  go_enter Tryz.func161,Tryz.ntmps161
  go_wp2
  go_ret2
  exact⟨rfl,HBL.out,Below.refl _ _,aJ.refl _⟩
 by_cases h2:0≤Gm.find S.ns s
 ·have HE:Hid (SyA S s=(-1-Gm.find S.ns s,0,S)):=aA (by unfold SyA;rw[if_neg h1,if_pos h2])
  have he:bL S.s.ts S.ns s=some (.int .i64 (-1-Gm.find S.ns s)):=by unfold bL;rw[if_neg h1,if_pos h2]
  rw[he]at hlk
  simp only[Option.getD_some,Option.isSome_some]at hlk
  rw[HE.out]
  clear h1 h2 he hlt hb
  generalize -1-Gm.find S.ns s=z at *
  go_enter Tryz.func161,Tryz.ntmps161
  go_wp2
  go_ret2
  exact⟨rfl,HBL.out,Below.refl _ _,aJ.refl _⟩
 have he:bL S.s.ts S.ns s=none:=za3 (by omega) (by omega)
 rw[he]at hlk
 simp only[Option.getD_none,Option.isSome_none]at hlk
 have HTM:=aA (zcb L B N R S s w hb hs (by omega) hB hlt)
 have HLI:=aA (fun x=>zcs s hs.1 hs.2 x)
 have HNA:=aA (fun x=>zbw s hs.1 x)
 by_cases h3:T.isLit s=true
 ·have HE:Hid (SyA S s=TmA S s):=aA (by unfold SyA;rw[if_neg h1,if_neg h2,if_pos (.inl h3)])
  rw[h3]at HLI
  rw[HE.out]
  generalize TmA S s=q at *
  clear h1 h2 h3 he hlt hb
  go_enter Tryz.func161,Tryz.ntmps161
  go_wp2_with fail
  refine(HLI.out _).mono ?_;rintro _ _ ⟨rfl,rfl⟩
  go_wp2_with fail
  refine HTM.out.mono ?_;rintro _ w2 ⟨rfl,hb2⟩
  have HB2:=aA hb2
  clear hb2
  go_wp2
  go_ret2
  exact⟨rfl,HB2.out⟩
 rw[Bool.eq_false_iff.2 h3]at HLI
 by_cases h4:s=[101,114,114,111,114]
 ·have HE:Hid (SyA S s=TmA S s):=aA (by unfold SyA;rw[if_neg h1,if_neg h2,if_pos (.inr h4)])
  have e4:=zii h4
  rw[HE.out]
  generalize TmA S s=q at *
  clear h1 h2 h3 h4 he hlt hb hs hnm
  generalize K.str s=st at *
  go_enter Tryz.func161,Tryz.ntmps161
  go_wp2_with fail
  refine(HLI.out _).mono ?_;rintro _ _ ⟨rfl,rfl⟩
  go_wp2_with fail
  refine HTM.out.mono ?_;rintro _ w2 ⟨rfl,hb2⟩
  have HB2:=aA hb2
  clear hb2
  go_wp2
  go_ret2
  exact⟨rfl,HB2.out⟩
 have HE:Hid (SyA S s=(0,6,S)):=aA (by unfold SyA;rw[if_neg h1,if_neg h2,if_neg (by simp[h3,h4])])
 have e4:=zjp hs.1 h4
 have h5:T.isName s=true:=by
  unfold Gm.named at hnm
  rw[Bool.eq_false_iff.2 h3,Bool.or_false]at hnm
  exact hnm
 rw[h5]at HNA
 rw[HE.out]
 clear h1 h2 h3 h4 h5 he hlt hb hs hnm HTM
 generalize K.str s=st at *
 go_enter Tryz.func161,Tryz.ntmps161
 go_wp2_with fail
 refine(HLI.out _).mono ?_;rintro _ _ ⟨rfl,rfl⟩
 go_wp2_with fail
 refine(HNA.out _).mono ?_;rintro _ w2 ⟨rfl,hb2⟩
 have HB2:=aA hb2
 clear hb2
 go_wp2
 go_ret2
 exact⟨rfl,HBL.out.below HB2.out,HB2.out.mono hB,aJ.below HB2.out⟩
def RiA (S:St) (i:Nat) (s:List Int):Int×Int×St:=if i=6 then(0,5,S) else SyA S s
def PrA (S:St) (s:List Int):Int×Int×St:=if(SyA S s).2.1=0∧(SyA S s).1<0 then(0,6,(SyA S s).2.2) else SyA S s
theorem zcY (L:List Int) (B N R:Nat) (S:St) (i:Nat) (s:List Int) (w:World) (hb:Bld L w B N R S) (hs:K.Tx s) (hnm:Gm.named s=true) (hB:B≤w.heap.size) (hlt:S.s.ts.length≤24) :
  Calls Tryz.prog 124 #[.pointer (some ⟨R,0,none⟩),.int .i64 i,.string (K.str s)] w fun e w'=>e=.returned (.tuple #[.int .i64 (RiA S i s).1,.int .i64 (RiA S i s).2.1])∧Bld L w' B N R (RiA S i s).2.2∧Below B w w'∧aJ w w':=by
 have HBL:=aA hb
 have HIS:=aA (fun x=>zbn s hs x)
 have HSY:=aA (zcR L B N R S s w hb hs hnm hB hlt)
 rw[hnm]at HIS
 unfold RiA
 clear hb hlt hs hnm
 by_cases h:i=6
 ·subst h
  rw[if_pos rfl]
  go_enter Tryz.func124,Tryz.ntmps124
  go_wp2_with fail
  refine(HIS.out _).mono ?_;rintro _ w2 ⟨rfl,hb2⟩
  have HB2:=aA hb2
  clear hb2
  go_wp2
  go_ret2
  exact⟨rfl,HBL.out.below HB2.out,HB2.out.mono hB,aJ.below HB2.out⟩
 ·rw[if_neg h]
  have e6:((i:Int)==6)=false:=beq_eq_false_iff_ne.2 (by omega)
  clear h
  generalize SyA S s=q at *
  go_enter Tryz.func124,Tryz.ntmps124
  go_wp2_with fail
  refine HSY.out.mono ?_;rintro _ w2 ⟨rfl,hb2⟩
  have HB2:=aA hb2
  clear hb2
  go_wp2
  go_ret2
  exact⟨rfl,HB2.out⟩
theorem zei (L:List Int) (B N R:Nat) (S:St) (s:List Int) (w:World) (hb:Bld L w B N R S) (hs:K.Tx s) (hnm:Gm.named s=true) (hB:B≤w.heap.size) (hlt:S.s.ts.length≤24) :
  Calls Tryz.prog 125 #[.pointer (some ⟨R,0,none⟩),.string (K.str s)] w fun e w'=>e=.returned (.tuple #[.int .i64 (PrA S s).1,.int .i64 (PrA S s).2.1])∧Bld L w' B N R (PrA S s).2.2∧Below B w w'∧aJ w w':=by
 have HSY:=aA (zcR L B N R S s w hb hs hnm hB hlt)
 unfold PrA
 clear hb hlt hs hnm
 generalize SyA S s=q at *
 obtain⟨z,e,S'⟩:=q
 simp only at HSY ⊢
 have HIT:=aA (fun x=>zag z x)
 by_cases h1:e=0
 ·subst h1
  by_cases h2:z<0
  ·rw[if_pos ⟨rfl,h2⟩]
   rw[decide_eq_false (by omega)]at HIT
   clear h2
   go_enter Tryz.func125,Tryz.ntmps125
   go_wp2_with fail
   refine HSY.out.mono ?_;rintro _ w2 ⟨rfl,hb2⟩
   have HB2:=aA hb2
   clear hb2
   go_wp2_with fail
   refine(HIT.out _).mono ?_;rintro _ w5 ⟨rfl,hw5⟩
   subst hw5
   go_wp2
   go_ret2
   exact⟨rfl,HB2.out⟩
  ·rw[if_neg (fun h=>h2 h.2)]
   rw[decide_eq_true (show 0≤z by omega)]at HIT
   clear h2
   go_enter Tryz.func125,Tryz.ntmps125
   go_wp2_with fail
   refine HSY.out.mono ?_;rintro _ w2 ⟨rfl,hb2⟩
   have HB2:=aA hb2
   clear hb2
   go_wp2_with fail
   refine(HIT.out _).mono ?_;rintro _ w5 ⟨rfl,hw5⟩
   subst hw5
   go_wp2
   go_ret2
   exact⟨rfl,HB2.out⟩
 ·rw[if_neg (fun h=>h1 h.1)]
  have e1:(e==0)=false:=beq_eq_false_iff_ne.2 h1
  clear h1
  go_enter Tryz.func125,Tryz.ntmps125
  go_wp2_with fail
  refine HSY.out.mono ?_;rintro _ w2 ⟨rfl,hb2⟩
  have HB2:=aA hb2
  clear hb2
  go_wp2
  go_ret2
  exact⟨rfl,HB2.out⟩
theorem zfh (k:Int) (hk:k=4∨k=5∨k=6) (w:World) :
  Calls Tryz.prog 160 #[.int .i64 k] w fun e w'=>e=.returned (.int .i64 (k-3))∧w'=w:=by
 rcases hk with rfl|rfl|rfl
 all_goals
  go_enter Tryz.func160,Tryz.ntmps160
  go_wp2
  go_ret
  exact⟨rfl,rfl⟩
def zeS (S:St) (s:List Int):St:={S with s:={S.s with tk:=S.s.tk++[s]} }
def TkA (S:St) (s:List Int):Int×St:=if s∈S.s.tk then(7,S) else((TmA (zeS S s) s).2.1,(TmA (zeS S s) s).2.2)
theorem zdm (L:List Int) (B N R:Nat) (S:St) (s:List Int) (w:World) (hb:Bld L w B N R S) (hs:K.Tx s) (hn:Gm.find S.ns s<0) (hB:B≤w.heap.size) (hlt:S.s.ts.length≤24) :
  Calls Tryz.prog 158 #[.pointer (some ⟨R,0,none⟩),.string (K.str s)] w fun e w'=>e=.returned (.int .i64 (TkA S s).1)∧Bld L w' B N R (TkA S s).2∧Below B w w'∧aJ w w':=by
 have HBL:=aA hb
 obtain⟨vT,vN,vR,Ms,Mt,ml,tl,h⟩:=id hb
 have HH:=aA h
 have hlk:=zjf h.w.mt h.ko s hs
 have c5:w.cell? ⟨R,5,none⟩=some (.map (some Mt)):=cell_of_row w R 5 _ _ _ h.w.b
 have hRs:=(Array.getElem?_eq_some_iff.1 h.w.b).1
 have hMt:=h.w.ht
 clear h
 by_cases h1:s∈S.s.tk
 ·have HE:Hid (TkA S s=(7,S)):=aA (by unfold TkA;rw[if_pos h1])
  rw[decide_eq_true h1]at hlk
  rw[HE.out]
  clear h1 hlt hb
  go_enter Tryz.func158,Tryz.ntmps158
  go_wp2
  go_ret
  exact⟨rfl,HBL.out,Below.refl _ _,aJ.refl _⟩
 have HE:Hid (TkA S s=((TmA (zeS S s) s).2.1,(TmA (zeS S s) s).2.2)):=aA (by unfold TkA;rw[if_neg h1])
 rw[decide_eq_false h1]at hlk
 have HNO:Hid (Mw.asc tl s=none):=aA (by rw[HH.out.ko s,if_neg h1])
 have HST:=aA (Mw.run_store (x:=s) HH.out.w.mt zgU Tryz.underlying88 hs (.bool true) (.inl HNO.out))
 rw[if_pos HNO.out]at HST
 have HB1:=aA (fun(w1:World) (hg:w.grownBy w1 (some Mt))=>zcF hg (fun k e=>by injection e with e;omega) hB)
 have HTM:=aA (fun(w1:World) (hm:Mw.MapIs bT w1 Mt (tl++[(s,.bool true)])) (hg:w.grownBy w1 (some Mt))=>zcb L B N R (zeS S s) s w1 ⟨vT,vN,vR,Ms,Mt,ml,_,⟨HH.out.w.mt_put hm hg,HH.out.so,HH.out.ko.next h1⟩⟩ hs hn (Nat.le_trans hB hg.size) hlt)
 rw[HE.out]
 generalize TmA (zeS S s) s=q at *
 clear h1 hlt hb hn
 go_enter Tryz.func158,Tryz.ntmps158
 go_wp2_with (at_mapUpdate;refine Mw.wpList_store rfl _ _ _ _ rfl HST.out rfl rfl rfl ?_;rintro w1 ⟨hm1,hg1⟩)
 refine(HTM.out _ hm1 hg1).mono ?_;rintro _ w2 ⟨rfl,hb2,hb3,hk2⟩
 have H2:=aA (And.intro hb2 (And.intro hb3 hk2))
 have HG1:=aA hg1
 clear hm1 hg1 hb2 hb3 hk2
 go_wp2
 go_ret
 exact⟨rfl,H2.out.1,(HB1.out _ HG1.out).trans H2.out.2.1,(aJ.map HG1.out HH.out.w.mt).trans H2.out.2.2⟩
theorem zb9 (ts:List Gm.Tm) (n:Nat) (h:n<ts.length) (a b:Int):((zdW ts).set (n*3+1) (.int .i64 a)).set (n*3+2) (.int .i64 b)=zdW (ts.modify n fun t=>⟨t.nm,a,b⟩):=by
 induction ts generalizing n with
 | nil=>simp at h
 | cons t r ih =>
  have e:zdW (t::r)=tmC t++zdW r:=by unfold zdW;rw[List.flatMap_cons]
  cases n with
  | zero =>
   rw[e]
   simp[tmC,zdW,List.modify]
  | succ n =>
   have hl:(tmC t).length=3:=rfl
   rw[e,List.set_append_right _ _ (by omega),List.set_append_right _ _ (by omega),hl,show(n+1)*3+1-3=n*3+1 by omega,show(n+1)*3+2-3=n*3+2 by omega,ih n (by simpa using h)]
   rw[List.modify_succ_cons]
   unfold zdW
   rw[List.flatMap_cons]
theorem zaE {w:World} {base:Nat} {v:Value} {ts:List Gm.Tm} (h:aZ w base v ts) (n:Nat) (hn:n<ts.length):∃g c,v=.slice (some ⟨g,0,none⟩) ts.length c∧ts.length≤c∧w.cell? ⟨g,n*3+1,none⟩=some (.int .i64 ts[n].lv)∧w.cell? ⟨g,n*3+2,none⟩=some (.int .i64 ts[n].wy)∧(∀j,w.frozen? ⟨g,j,none⟩=false)∧base≤g∧g<w.heap.size∧∃cur,w.heap[g]?=some (.cells cur 51 (0,0)):=by
 rcases h.2 with⟨_,h0⟩|⟨g,cap,cur,rfl,hb,hg,hnc,hm,hs,ht⟩
 ·omega
 ·refine⟨g,cap,rfl,hnc,?_,?_,fun j=>frozen_of_row w g j _ _ hg,hb,(Array.getElem?_eq_some_iff.1 hg).1,cur,hg⟩
  ·rw[World.ownsRow.cellAt h (n*3+1) (by omega)]
   exact zbp tmC (fun _=>rfl) ts n 1 hn (by omega)
  ·rw[World.ownsRow.cellAt h (n*3+2) (by omega)]
   exact zbp tmC (fun _=>rfl) ts n 2 hn (by omega)
def zly (S:St) (n:Nat) (a:Int):St:={S with s:={S.s with ts:=S.s.ts.modify n fun t=>⟨t.nm,S.s.lv,a⟩} }
def LvA (S:St) (s:List Int) (a:Int):Int×St :=
 if(TmA S s).2.1≠0 then((TmA S s).2.1,(TmA S s).2.2) else if 0<((TmA S s).2.2.s.ts.map Gm.Tm.lv).getD (TmA S s).1.toNat 0 then(7,(TmA S s).2.2) else(0,zly (TmA S s).2.2 (TmA S s).1.toNat a)
theorem zkP (S:St) (s:List Int) (h:(TmA S s).2.1=0):∃n:Nat,(TmA S s).1=(n:Int)∧n<(TmA S s).2.2.s.ts.length:=by
 unfold TmA at *
 by_cases h1:0≤Gm.find (Gm.names S.s.ts) s
 ·rw[if_pos h1]
  have:=Gm.find_lt (Gm.names S.s.ts) s
  simp only[Gm.names,List.length_map]at this
  exact⟨(Gm.find (Gm.names S.s.ts) s).toNat,by simp only;omega,by simp only[Gm.names]at *;omega⟩
 ·rw[if_neg h1]at h ⊢
  by_cases h2:S.s.ts.length=24
  ·rw[if_pos h2]at h;simp at h
  ·rw[if_neg h2]
   exact⟨S.s.ts.length,rfl,by simp⟩
theorem zdE (L:List Int) (B N R:Nat) (S:St) (s:List Int) (a:Int) (w:World) (hb:Bld L w B N R S) (hs:K.Tx s) (hn:Gm.find S.ns s<0) (hB:B≤w.heap.size) (hlt:S.s.ts.length≤24) :
  Calls Tryz.prog 159 #[.pointer (some ⟨R,0,none⟩),.string (K.str s),.int .i64 a] w fun e w'=>e=.returned (.int .i64 (LvA S s a).1)∧Bld L w' B N R (LvA S s a).2∧Below B w w'∧aJ w w':=by
 have HTM:=aA (zcb L B N R S s w hb hs hn hB hlt)
 have HLT:=aA (zkP S s)
 unfold LvA
 clear hb hlt hs hn
 generalize TmA S s=q at *
 obtain⟨z,er,S'⟩:=q
 simp only at HTM HLT ⊢
 by_cases h0:er=0
 case neg =>
  rw[if_pos h0]
  have e0:(er != 0)=true:=by simpa using h0
  clear h0
  go_enter Tryz.func159,Tryz.ntmps159
  go_wp2_with fail
  refine HTM.out.mono ?_;rintro _ w2 ⟨rfl,hb2⟩
  have HB2:=aA hb2
  clear hb2
  go_wp2
  go_ret
  exact⟨rfl,HB2.out⟩
 rw[if_neg (fun h=>h h0)]
 obtain⟨n,hz,hnl⟩:=HLT.out h0
 subst h0
 subst hz
 have hget:(S'.s.ts.map Gm.Tm.lv).getD ((n:Int)).toNat 0=S'.s.ts[n].lv:=by simp[hnl]
 rw[hget]
 have hnn:((n:Int)).toNat=n:=rfl
 rw[hnn]
 by_cases h2:0<S'.s.ts[n].lv
 ·rw[if_pos h2]
  have HTC:=aA (fun(x:World) (vT:Value) (h:aZ x B vT S'.s.ts)=>zaE h n hnl)
  generalize S'.s.ts[n].lv=lv at *
  generalize S'.s.ts[n].wy=wy at *
  clear hget hnn
  go_enter Tryz.func159,Tryz.ntmps159
  go_wp2_with fail
  refine HTM.out.mono ?_;rintro _ w2 ⟨rfl,hb2⟩
  have HB2:=aA hb2
  obtain⟨⟨vT,vN,vR,Ms,Mt,ml,tl,h⟩,_⟩:=hb2
  obtain⟨g,c,rfl,hc,k1,k2,hf,_,hgs,_⟩:=HTC.out _ _ h.w.t
  have c0:w2.cell? ⟨R,0,none⟩=some (.slice (some ⟨g,0,none⟩) S'.s.ts.length c):=cell_of_row w2 R 0 _ _ _ h.w.b
  have hRs:=(Array.getElem?_eq_some_iff.1 h.w.b).1
  clear h
  go_wp2
  go_ret
  exact⟨rfl,HB2.out⟩
 ·rw[if_neg h2]
  have HTC:=aA (fun(x:World) (vT:Value) (h:aZ x B vT S'.s.ts)=>zaE h n hnl)
  have h2':=Int.not_lt.1 h2
  generalize S'.s.ts[n].lv=lv at *
  generalize S'.s.ts[n].wy=wy at *
  clear hget hnn h2
  go_enter Tryz.func159,Tryz.ntmps159
  go_wp2_with fail
  refine HTM.out.mono ?_;rintro _ w2 ⟨rfl,hb2⟩
  have HB2:=aA hb2
  obtain⟨⟨vT,vN,vR,Ms,Mt,ml,tl,h⟩,hb3,hk3⟩:=hb2
  obtain⟨g,c,rfl,hc,k1,k2,hf,hBg,hgs,cur,hcur⟩:=HTC.out _ _ h.w.t
  have HH:=aA h
  have HK:=aA (And.intro hb3 hk3)
  have HCU:=aA hcur
  have c0:w2.cell? ⟨R,0,none⟩=some (.slice (some ⟨g,0,none⟩) S'.s.ts.length c):=cell_of_row w2 R 0 _ _ _ h.w.b
  have c6:w2.cell? ⟨R,6,none⟩=some (.int .i64 S'.s.lv):=cell_of_row w2 R 6 _ _ _ h.w.b
  have hRs:=(Array.getElem?_eq_some_iff.1 h.w.b).1
  have f1:=hf (n*3+1)
  have f2:=hf (n*3+2)
  clear h hb3 hk3 hcur hf
  go_wp2
  go_ret
  have ho:=HH.out.w.t
  have s1:=World.ownsRow.stored ho (n*3+1) (.int .i64 S'.s.lv)
  have s2:=World.ownsRow.stored s1.1 (n*3+2) (.int .i64 a)
  have hg:w2.grownBy ((w2.setCell ⟨g,n*3+1,none⟩ (.int .i64 S'.s.lv)).setCell ⟨g,n*3+2,none⟩ (.int .i64 a)) (some g):=aD (aD (World.grownBy.refl _ _) _ _) _ _
  have hOT:aZ ((w2.setCell ⟨g,n*3+1,none⟩ (.int .i64 S'.s.lv)).setCell ⟨g,n*3+2,none⟩ (.int .i64 a)) B (.slice (some ⟨g,0,none⟩) S'.s.ts.length c) (S'.s.ts.modify n fun t=>⟨t.nm,S'.s.lv,a⟩):=by
   unfold aZ
   rw[List.length_modify,←zb9 S'.s.ts n hnl]
   exact s2.1
  refine⟨rfl,⟨.slice (some ⟨g,0,none⟩) S'.s.ts.length c,vN,vR,Ms,Mt,ml,tl,⟨HH.out.w.tm_put hOT hg,HH.out.so.same (Gm.names_modify _ _ _ (fun _=>rfl)),HH.out.ko⟩⟩,HK.out.1.grown hg (Nat.le_trans hB HK.out.1.size) (fun k e=>by injection e with e;omega),HK.out.2.trans (aJ.cells hg HCU.out (.inr rfl))⟩
def rfX (L:List Int) (x:Tok):Nat:=Fl.fl (Pl.pos (L.take x.o)).1
def rfY (L:List Int) (x:Tok):Nat:=Fl.fl (Pl.pos (L.take x.o)).2
def zkU (S:St) (x:Tok):St:={S with s:={S.s with st:=some x} }
def SnA (S:St) (x:Tok):Int×St:=if S.s.st.isSome then(7,S) else(0,zkU S x)
theorem zdp (L:List Int) (B N R:Nat) (S:St) (x:Tok) (w:World) (hb:Bld L w B N R S) (hs:K.Tx x.t) (hnm:T.isName x.t=true) (hst:∀y,S.s.st=some y→T.isName y.t=true) (hB:B≤w.heap.size) :
  Calls Tryz.prog 157 #[.pointer (some ⟨R,0,none⟩),.agg #[.string (K.str x.t),.complex .f64 (rfX L x) (rfY L x)]] w fun e w'=>e=.returned (.int .i64 (SnA S x).1)∧Bld L w' B N R (SnA S x).2∧Below B w w'∧aJ w w':=by
 have SC:=fun a w m X Y=>show(store a (.complex .f64 X Y) m).run Tryz.prog w=stored Tryz.prog w a (.complex .f64 X Y) m from run_store _ w a _ m rfl
 have HBL:=aA hb
 have HNA:=aA (fun x1=>zbw x.t hs.1 x1)
 rw[hnm]at HNA
 have HB1:=aA (fun o=>(Below.refl w.heap.size w).alloc (Nat.le_refl _) o)
 have HX:Hid (rfX L x=soX L (some x)):=aA rfl
 have HY:Hid (rfY L x=soY L (some x)):=aA rfl
 have HS:Hid (K.str x.t=soS (some x)):=aA rfl
 unfold SnA
 clear hb hs hnm
 rcases hq:S.s.st with _|y
 ·have HQ:=aA hq
  have hso:soS S.s.st=⟨#[]⟩:=by rw[hq];rfl
  clear hq hst
  simp only[Option.isSome_none,Bool.false_eq_true,if_false]
  generalize rfX L x=X at *
  generalize rfY L x=Y at *
  generalize K.str x.t=sx at *
  go_enter Tryz.func157,Tryz.ntmps157
  go_wp2_with fail
  refine(HNA.out _).mono ?_;rintro _ w2 ⟨rfl,hb2⟩
  have HB2:=aA ((HB1.out _).trans (hb2.mono (by simp)))
  obtain⟨vT,vN,vR,Ms,Mt,ml,tl,h⟩:=HBL.out.below HB2.out
  have HH:=aA h
  have c7:w2.cell? ⟨R,7,none⟩=some (.string ⟨#[]⟩):=(cell_of_row w2 R 7 _ _ _ h.w.b).trans (by rw[←hso];rfl)
  have c8:w2.cell? ⟨R,8,none⟩=some (.complex .f64 (soX L S.s.st) (soY L S.s.st)):=cell_of_row w2 R 8 _ _ _ h.w.b
  have f7:=frozen_of_row w2 R 7 _ _ h.w.b
  have f8:=frozen_of_row w2 R 8 _ _ h.w.b
  have hRs:=(Array.getElem?_eq_some_iff.1 h.w.b).1
  have hbb:=(hb2.block w.heap.size (by simp)).trans (heap_alloc_new w _)
  have d0:=cell_of_row w2 _ 0 _ _ _ hbb
  have d1:=cell_of_row w2 _ 1 _ _ _ hbb
  have hz:w.heap.size<w2.heap.size:=(Array.getElem?_eq_some_iff.1 hbb).1
  clear h hb2 hbb hso
  go_wp2
  go_ret
  have a2:=(HH.out.w.set 7 (.string sx)).set 8 (.complex .f64 X Y)
  refine⟨rfl,⟨vT,vN,vR,Ms,Mt,ml,tl,⟨?_,HH.out.so,HH.out.ko⟩⟩,((HB2.out.mono hB).setCell HH.out.w.hR _).setCell HH.out.w.hR _,?_⟩
  ·have e:zbe L vT vN vR Ms Mt (zkU S x)=((zbe L vT vN vR Ms Mt S).setIfInBounds 7 (.string sx)).setIfInBounds 8 (.complex .f64 X Y):=by rw[HX.out,HY.out,HS.out];rfl
   rw[e]
   exact a2
  ·refine(aJ.below HB2.out).trans (aJ.cells (aD (aD (World.grownBy.refl _ _) _ _) _ _) HH.out.w.b (.inl rfl))
 ·have hne:y.t≠[]:=fun e=>by have:=hst y hq;rw[e]at this;simp[T.isName]at this
  have hso:soS S.s.st=K.str y.t:=by rw[hq];rfl
  have hsn:¬(K.str y.t).toList=[]:=by rw[K.str_list];intro e;exact hne (by simpa[K.bytes] using e)
  clear hq hst hne
  simp only[Option.isSome_some,if_true]
  generalize rfX L x=X at *
  generalize rfY L x=Y at *
  generalize K.str x.t=sx at *
  generalize K.str y.t=sy at *
  have hsn':sy.toList.isEmpty=false:=by simpa using hsn
  go_enter Tryz.func157,Tryz.ntmps157
  go_wp2_with fail
  refine(HNA.out _).mono ?_;rintro _ w2 ⟨rfl,hb2⟩
  have HB2:=aA ((HB1.out _).trans (hb2.mono (by simp)))
  obtain⟨vT,vN,vR,Ms,Mt,ml,tl,h⟩:=HBL.out.below HB2.out
  have c7:w2.cell? ⟨R,7,none⟩=some (.string sy):=(cell_of_row w2 R 7 _ _ _ h.w.b).trans (by rw[←hso];rfl)
  have hRs:=(Array.getElem?_eq_some_iff.1 h.w.b).1
  clear h hb2 hso
  go_wp2
  go_ret
  exact⟨rfl,HBL.out.below HB2.out,HB2.out.mono hB,aJ.below HB2.out⟩
theorem zeO (S:St) (x:Tok):(∀ts' n,Gm.put S.s.ts x=.ok (ts',n)→TmA S x.t=(n,0,{S with s:={S.s with ts:=ts' } }))∧(∀y e,Gm.put S.s.ts x=.bad y e→(TmA S x.t).2.1=e∧e≠0∧y=x):=by
 unfold Gm.put TmA
 by_cases h1:0≤Gm.find (Gm.names S.s.ts) x.t
 ·simp only[if_pos h1]
  refine⟨?_,?_⟩
  ·intro ts' n h;injection h with h;injection h with h1 h2;subst h1 h2;rfl
  ·intro y e h;cases h
 ·simp only[if_neg h1]
  by_cases h2:S.s.ts.length=24
  ·simp only[if_pos h2]
   refine⟨?_,?_⟩
   ·intro ts' n h;cases h
   ·intro y e h;injection h with h1 h2;subst h1 h2;exact⟨rfl,by decide,rfl⟩
  ·simp only[if_neg h2]
   refine⟨?_,?_⟩
   ·intro ts' n h;injection h with h;injection h with h1 h2;subst h1 h2;rfl
   ·intro y e h;cases h
def zlv (S:St) (x:Tok) (r:Gm.R Gm.S1) (a:Int×St):Prop:=match r with
 | .ok s=>a=(0,{S with s:=s})
 | .bad y e=>a.1=e∧e≠0∧y=x
theorem zj5 (S:St) (x:Tok):zlv S x (Gm.decl1 3 S.s x) (TkA S x.t):=by
 unfold Gm.decl1 TkA
 rw[if_neg (by decide),if_pos rfl]
 by_cases h:x.t∈S.s.tk
 ·rw[if_pos h,if_pos h];exact⟨rfl,by decide,rfl⟩
 ·rw[if_neg h,if_neg h]
  obtain⟨p1,p2⟩:=zeO (zeS S x.t) x
  cases hp:Gm.put S.s.ts x with
  | ok q =>
   obtain⟨ts',n⟩:=q
   rw[p1 ts' n hp]
   rfl
  | bad y e =>
   exact p2 y e hp
theorem zkc (S:St) (x:Tok):zlv S x (Gm.decl1 7 S.s x) (SnA S x):=by
 unfold Gm.decl1 SnA
 rw[if_pos rfl]
 by_cases h:S.s.st.isSome=true
 ·rw[if_pos h,if_pos h];exact⟨rfl,by decide,rfl⟩
 ·rw[if_neg h,if_neg h];rfl
theorem ze5 (S:St) (x:Tok) (k:Int) (hk:k=4∨k=5∨k=6):zlv S x (Gm.decl1 k S.s x) (LvA S x.t (k-3)):=by
 unfold Gm.decl1
 rw[if_neg (by omega),if_neg (by omega)]
 obtain⟨p1,p2⟩:=zeO S x
 unfold LvA
 cases hp:Gm.put S.s.ts x with
 | bad y e =>
  obtain⟨q1,q2,q3⟩:=p2 y e hp
  have hn:¬(0≤Gm.find (Gm.names S.s.ts) x.t∧0<(S.s.ts.map Gm.Tm.lv).getD (Gm.find (Gm.names S.s.ts) x.t).toNat 0):=by
   rintro⟨h1,_⟩
   unfold Gm.put at hp
   rw[if_pos h1]at hp
   cases hp
  rw[if_neg hn,if_pos (by rw[q1];exact q2)]
  exact⟨q1,q2,q3⟩
 | ok q =>
  obtain⟨ts',n⟩:=q
  rw[p1 ts' n hp]
  simp only[ne_eq,not_true_eq_false,if_false]
  rcases Gm.put_ok hp with⟨j,h1,h2,h3,hj,_⟩|⟨h1,h2,h3,h4⟩
  ·subst h2
   rw[h1,h3]
   by_cases hl:0<(S.s.ts.map Gm.Tm.lv).getD (j:Int).toNat 0
   ·rw[if_pos ⟨by omega,hl⟩,if_pos hl];exact⟨rfl,by decide,rfl⟩
   ·rw[if_neg (fun h=>hl h.2),if_neg hl];rfl
  ·have hf:Gm.find (Gm.names S.s.ts) x.t<0:=Gm.find_none.2 h1
   rw[if_neg (by omega)]
   subst h2 h3
   have h0:((S.s.ts++[(⟨x.t,0,0⟩:Gm.Tm)]).map Gm.Tm.lv).getD ((S.s.ts.length:Int)).toNat 0=0:=by simp
   rw[h0,if_neg (by decide)]
   rfl
def zjF (L:List Int) (w:World) (B:Nat) (A:Option Addr) (xs:List Tok):Prop :=
 xs.length≠0→∃g o,A=some ⟨g,o,none⟩∧g<B∧∀i (h:i<xs.length),w.cell? ⟨g,o+i*2,none⟩=some (.string (K.str xs[i].t))∧w.cell? ⟨g,o+i*2+1,none⟩=some (.complex .f64 (rfX L xs[i]) (rfY L xs[i]))
def ziE (L:List Int) (w:World) (B:Nat) (A:Option Addr) (ds:List Y.Dcl):Prop :=
 ds.length≠0→∃g o,A=some ⟨g,o,none⟩∧g<B∧∀i (h:i<ds.length),w.cell? ⟨g,o+i*2,none⟩=some (.int .i64 ds[i].k)∧∃A' c',w.cell? ⟨g,o+i*2+1,none⟩=some (.slice A' ds[i].ns.length c')∧zjF L w B A' ds[i].ns
theorem zjF.keep {L:List Int} {w w':World} {B:Nat} {A:Option Addr} {xs:List Tok} (h:zjF L w B A xs) (hb:Below B w w'):zjF L w' B A xs:=fun hn=>by
 obtain⟨g,o,e,hg,hc⟩:=h hn
 exact⟨g,o,e,hg,fun i hi=>⟨(hb.cell (p:=⟨g,o+i*2,none⟩) hg).trans (hc i hi).1,(hb.cell (p:=⟨g,o+i*2+1,none⟩) hg).trans (hc i hi).2⟩⟩
theorem ziE.keep {L:List Int} {w w':World} {B:Nat} {A:Option Addr} {xs:List Y.Dcl} (h:ziE L w B A xs) (hb:Below B w w'):ziE L w' B A xs:=fun hn=>by
 obtain⟨g,o,e,hg,hc⟩:=h hn
 refine⟨g,o,e,hg,fun i hi=>?_⟩
 obtain⟨h1,A',c',h2,h3⟩:=hc i hi
 exact⟨(hb.cell (p:=⟨g,o+i*2,none⟩) hg).trans h1,A',c',(hb.cell (p:=⟨g,o+i*2+1,none⟩) hg).trans h2,h3.keep hb⟩
def NmA (k:Int) (S:St) (x:Tok):Int×St:=if k=7 then SnA S x else if k=3 then TkA S x.t else LvA S x.t (k-3)
theorem zkq (k:Int) (hk:k=3∨k=4∨k=5∨k=6∨k=7) (S:St) (x:Tok):zlv S x (Gm.decl1 k S.s x) (NmA k S x):=by
 unfold NmA
 rcases hk with rfl|rfl|rfl|rfl|rfl
 ·rw[if_neg (by decide),if_pos rfl];exact zj5 S x
 ·rw[if_neg (by decide),if_neg (by decide)];exact ze5 S x 4 (by omega)
 ·rw[if_neg (by decide),if_neg (by decide)];exact ze5 S x 5 (by omega)
 ·rw[if_neg (by decide),if_neg (by decide)];exact ze5 S x 6 (by omega)
 ·rw[if_pos rfl];exact zkc S x
theorem zhQ (L:List Int) (B N R:Nat) (k:Int) (hk:k=3∨k=4∨k=5∨k=6∨k=7) (S:St) (x:Tok) (w:World) (hb:Bld L w B N R S) (hs:K.Tx x.t) (hnm:Gm.named x.t=true) (h7:k=7→T.isName x.t=true) (hst:∀y,S.s.st=some y→T.isName y.t=true) (hn:Gm.find S.ns x.t<0) (hB:B≤w.heap.size) (hlt:S.s.ts.length≤24) :
  Calls Tryz.prog 123 #[.pointer (some ⟨R,0,none⟩),.int .i64 k,.agg #[.string (K.str x.t),.complex .f64 (rfX L x) (rfY L x)]] w fun e w'=>e=.returned (.int .i64 (NmA k S x).1)∧Bld L w' B N R (NmA k S x).2∧Below B w w'∧aJ w w':=by
 have SC:=fun a w m X Y=>show(store a (.complex .f64 X Y) m).run Tryz.prog w=stored Tryz.prog w a (.complex .f64 X Y) m from run_store _ w a _ m rfl
 have HBL:=aA hb
 have HIS:=aA (fun y=>zbn x.t hs y)
 rw[hnm]at HIS
 have HB1:=aA (fun o=>(Below.refl w.heap.size w).alloc (Nat.le_refl _) o)
 have HSN:=aA (fun(y:World) (h:Below w.heap.size w y) (h7:k=7) (hx:k=7→T.isName x.t=true)=>zdp L B N R S x y (HBL.out.below h) hs (hx h7) hst (Nat.le_trans hB h.size))
 have HTK:=aA (fun(y:World) (h:Below w.heap.size w y)=>zdm L B N R S x.t y (HBL.out.below h) hs hn (Nat.le_trans hB h.size) hlt)
 have HLV:=aA (fun(y:World) (h:Below w.heap.size w y)=>zdE L B N R S x.t (k-3) y (HBL.out.below h) hs hn (Nat.le_trans hB h.size) hlt)
 have HAS:=aA (fun y (h:k=4∨k=5∨k=6)=>zfh k h y)
 unfold NmA
 clear hb hs hnm hst hn hlt
 by_cases e7:k=7
 ·rw[if_pos e7]
  have H:=aA (fun(y:World) (h:Below w.heap.size w y)=>HSN.out y h e7 h7)
  subst e7
  generalize SnA S x=q at *
  generalize rfX L x=X at *
  generalize rfY L x=Y at *
  generalize K.str x.t=sx at *
  clear hk h7 HSN HTK HLV HAS
  go_enter Tryz.func123,Tryz.ntmps123
  go_wp2_with fail
  refine(HIS.out _).mono ?_;rintro _ w2 ⟨rfl,hb2⟩
  have HB2:=aA ((HB1.out _).trans (hb2.mono (by simp)))
  have hbb:=(hb2.block w.heap.size (by simp)).trans (heap_alloc_new w _)
  have d0:=cell_of_row w2 _ 0 _ _ _ hbb
  have d1:=cell_of_row w2 _ 1 _ _ _ hbb
  have hz:w.heap.size<w2.heap.size:=(Array.getElem?_eq_some_iff.1 hbb).1
  clear hb2 hbb
  go_wp2_with fail
  refine(H.out _ HB2.out).mono ?_;rintro _ w3 ⟨rfl,hb3⟩
  have HB3:=aA hb3
  clear hb3
  go_wp2
  go_ret
  exact⟨rfl,HB3.out.1,(HB2.out.mono hB).trans HB3.out.2.1,(aJ.below HB2.out).trans HB3.out.2.2⟩
 rw[if_neg e7]
 by_cases e3:k=3
 ·rw[if_pos e3]
  subst e3
  generalize TkA S x.t=q at *
  generalize rfX L x=X at *
  generalize rfY L x=Y at *
  generalize K.str x.t=sx at *
  clear hk h7 HSN HLV HAS e7
  go_enter Tryz.func123,Tryz.ntmps123
  go_wp2_with fail
  refine(HIS.out _).mono ?_;rintro _ w2 ⟨rfl,hb2⟩
  have HB2:=aA ((HB1.out _).trans (hb2.mono (by simp)))
  have hbb:=(hb2.block w.heap.size (by simp)).trans (heap_alloc_new w _)
  have d0:=cell_of_row w2 _ 0 _ _ _ hbb
  have hz:w.heap.size<w2.heap.size:=(Array.getElem?_eq_some_iff.1 hbb).1
  clear hb2 hbb
  go_wp2_with fail
  refine(HTK.out _ HB2.out).mono ?_;rintro _ w3 ⟨rfl,hb3⟩
  have HB3:=aA hb3
  clear hb3
  go_wp2
  go_ret
  exact⟨rfl,HB3.out.1,(HB2.out.mono hB).trans HB3.out.2.1,(aJ.below HB2.out).trans HB3.out.2.2⟩
 rw[if_neg e3]
 have HAS:=aA (fun y=>HAS.out y (by omega))
 have f7:(k==7)=false:=beq_eq_false_iff_ne.2 e7
 have f3:(k==3)=false:=beq_eq_false_iff_ne.2 e3
 generalize LvA S x.t (k-3)=q at *
 generalize k-3=a at *
 generalize rfX L x=X at *
 generalize rfY L x=Y at *
 generalize K.str x.t=sx at *
 clear hk h7 HSN HTK e7 e3
 go_enter Tryz.func123,Tryz.ntmps123
 go_wp2_with fail
 refine(HIS.out _).mono ?_;rintro _ w2 ⟨rfl,hb2⟩
 have HB2:=aA ((HB1.out _).trans (hb2.mono (by simp)))
 have hbb:=(hb2.block w.heap.size (by simp)).trans (heap_alloc_new w _)
 have d0:=cell_of_row w2 _ 0 _ _ _ hbb
 have hz:w.heap.size<w2.heap.size:=(Array.getElem?_eq_some_iff.1 hbb).1
 have HBB:=aA hbb
 clear hb2
 go_wp2_with fail
 have D0:=fun y:Calm.OnB w.heap.size w2=>(cell_of_row y.1 w.heap.size 0 _ _ _ (y.2.trans hbb))
 refine Calm.region_tree (fun x=>∃y:Calm.OnB w.heap.size w2,x=y.1) (.one [0,1,2,3] 4 (.one [] 5 (.fin [6]))) (by kernel_rfl) (by kernel_rfl) (fun _ _ d _ _ h=>by cases d <;> exact h) ⟨⟨w2.drew,rfl⟩,rfl⟩ ?_
 clear d0 hbb
 simp only[Calm.wpT,Calm.wpSt,Calm.pickOps,List.getElem?_toArray,List.getElem?_cons_zero,List.getElem?_cons_succ]
 repeat (go_big_quiet_step (fail))
 refine wpQuiet_nil ?_
 clear D0
 intro KK hKK
 rw[if_pos (by rfl)]
 go_wp2_with fail
 refine(HAS.out _).mono ?_;rintro _ w5 ⟨rfl,hw5⟩
 subst hw5
 go_wp2_with fail
 refine hKK _ _ ⟨⟨w2.drew,rfl⟩,rfl⟩ (fun x=>∃y:Calm.OnB w.heap.size w2,x=y.1) (fun _ h=>h) ⟨⟨w2.drew,rfl⟩,rfl⟩ ?_
 refine wpQuiet_nil ?_
 intro KK hKK
 rw[if_pos (by rfl)]
 go_wp2_with fail
 refine(HLV.out _ (aB HB2.out 1)).mono ?_;rintro _ w3 ⟨rfl,hb3⟩
 have HB3:=aA hb3
 have HK3:=aA ((hb3.2.2 w.heap.size _ _ HBB.out (by decide) (by decide)).trans HBB.out.symm)
 clear hb3
 go_wp2_with fail
 refine hKK _ _ ⟨⟨_,HK3.out⟩,rfl⟩ (fun x=>∃y:Calm.OnB w.heap.size w2,x=y.1) (fun _ h=>h) ⟨⟨_,HK3.out⟩,rfl⟩ ?_
 repeat (go_big_quiet_step (fail))
 refine wpQuiet_nil ?_
 clear hKK
 go_wp2
 go_ret
 exact⟨rfl,HB3.out.1,(aB (HB2.out.mono hB) 1).trans HB3.out.2.1,(aJ.below (aB HB2.out 1)).trans HB3.out.2.2⟩
end Go.Proofs.YtkfelkpilaipnaaGreatDoor
