/- The least sentence of symbols is those of their parts, one behind the other; of up to 50 symbols: the statement. Conditions: none but the row's own. -/
import Derived.Test.YtcgclkndkahgaaaKI
namespace Go.Proofs.Ytcgclkndkahgaaa.leastParts
open Go.ChangeShapes Go.WideShapes Go.ChangeAt Go.RowKit
open Go.ChangeMaps (open_string shut_string)
set_option maxRecDepth 100000 in
theorem zgO (os:Os) (started:os.Started) (H:Type) (enc:TypeId×Value→H) :
  ReturnsInHanded {} Try.checked os 3 .any (Rows.leastPartsSpec.pre6 enc Try.prog Try.f3 Rows.leastPartsRow.domain false) (Rows.leastPartsSpec.post enc Try.prog Try.f3 false true false false):=by
 refine returnsInHanded_of_change_sized (C:=Try.checked) RowKit.own started (by kernel_rfl) Try.func3
  (ChangeSpec.witness6 (enc:=enc) (C:=Try.checked) false ⟨#[],#[.agg #[.slice none 0 0,.slice none 0 0,.slice none 0 0,.int .i64 0],.slice none 0 0,.int .u8 0],[]⟩ 8 (by kernel_rfl) (by kernel_rfl) (by kernel_rfl) (by kernel_rfl)) ?_
 intro W base args ds gs before hval0 hW _ hsz0 _
 have hval:∀(j:Nat) t v,Try.f3.params[j]?=some t→args[j]?=some v→Value.okWide Try.prog W .any base t v:=hval0
 have hW':=hW
 obtain⟨p,q,hA0,hV,rfl,hfz,hnd⟩:=hW
 have hA:DataW.TrodAll enc Try.prog W 0 (fun _=>true) true Try.f3.params.toList args.toList ds p:=hA0
 have hsz:(DataW.weightsEach Try.prog (Try.f3.params.toList++Rows.leastPartsSpec.plain.varTypes Try.prog) (ds++gs)).all (·≤reachBytes)=true:=hsz0
 rw[Try.params3]at hA hval hsz
 obtain⟨v0,vs0,d0,ds0,p0,q0,hargs,rfl,rfl,h0,r0⟩:=trodAll_cons hA
 obtain⟨v1,vs1,d1,ds1,p1,q1,rfl,rfl,rfl,h1,r1⟩:=trodAll_cons r0
 obtain⟨v2,vs2,d2,ds2,p2,q2,rfl,rfl,rfl,h2,r2⟩:=trodAll_cons r1
 obtain⟨rfl,rfl,rfl⟩:=trodAll_nil r2
 obtain rfl:args=#[v0,v1,v2]:=by cases args;simp_all
 obtain⟨rfl,rfl⟩:=trodVars_none hV
 have k0:=h0
 have lt0:∀x∈p0,x.block<W.heap.size:=by obtain⟨m,hm⟩:=k0;exact DataW.trod_lt m _ _ _ hm
 obtain⟨G0,gr0,ft0⟩:=zeH Try.underlying26 (by kernel_rfl) (by kernel_rfl) Try.underlying22 Try.underlying90 (by kernel_rfl) (by kernel_rfl) Try.underlying9 Try.underlying3 Try.underlying3 Try.underlying23 Try.underlying9 (by kernel_rfl) Try.underlying24 Try.underlying42 (by kernel_rfl) (by kernel_rfl) Try.underlying3 Try.underlying27 Try.underlying3 (by kernel_rfl) Try.underlying3 Try.underlying3 (hval 0 26 v0 rfl rfl) h0
 obtain⟨a1,len1,cap1,rfl⟩:=okWide_slice Try.underlying27 (hval 1 27 v1 rfl rfl)
 have k1:=h1
 have lt1:∀x∈p1,x.block<W.heap.size:=by obtain⟨m,hm⟩:=k1;exact DataW.trod_lt m _ _ _ hm
 obtain⟨z1,w1,sz1⟩:∃zs,zfa W a1 len1 cap1 zs∧cap1*8≤140737488351232:=by
  obtain⟨fuel,hf⟩:=h1
  rcases open_ints Try.underlying27 Try.underlying3 (by kernel_rfl) hf with⟨hcs,_⟩|⟨x,l,c,zs,hcs,_,hl,hm,hz,hx,hcell,hwz⟩
  ·simp[Value.cells]at hcs
   obtain⟨rfl,rfl,rfl⟩:=hcs
   exact⟨[],.inl ⟨rfl,rfl,rfl,rfl⟩,by omega⟩
  ·simp[Value.cells]at hcs
   obtain⟨rfl,rfl,rfl⟩:=hcs
   have hz1:zs.length=cap1:=by simpa using hz
   cases hx
   have hs:=sized_slice hsz (j:=1) (t:=27) (e:=3) rfl rfl Try.underlying27
   have hby:Try.prog.bytesOf 3=8:=by kernel_rfl
   have hre:reachBytes=140737488351232:=by decide
   rw[hby,hre]at hs
   refine⟨zs,.inr ⟨_,rfl,hl,hm,hz1,hcell,hwz⟩,?_⟩
   simp only[lits,List.length_map,List.length_take,List.length_drop]at hs
   have h3:min len1 zs.length+(zs.length-len1)=cap1:=by omega
   rw[h3]at hs;exact hs
 obtain⟨xs1,rfl,hlc1,hcm1,hwf1,hrd1⟩:=w1.rd
 obtain⟨a2,rfl,rfl,rfl,w2⟩:=open_int Try.underlying5 (hval 2 5 v2 rfl rfl) h2
 have bd2:=bounds_u8 w2
 obtain⟨n2,rfl⟩:=Int.eq_ofNat_of_zero_le bd2.1
 clear hA0 hval0
 refine(zbI v0 G0 a1 cap1 xs1 n2 W gr0 ft0 hrd1 (fun z hz=>by have:=bounds_i64 (hwf1 z hz);unfold Gm.In;omega) hlc1 (by omega) (by omega)).mono fun e W' ⟨he,bel⟩=>?_
 subst he
 exact⟨_,rfl,_,_,_,[],_,[],hW',trodAll_mk1 (shut_bool Try.underlying4 _),(trodAll_cons_mk (Below.trod RowKit.laidOut (by kernel_rfl) (of_decide_eq_true (by kernel_rfl)) k0 bel lt0) (trodAll_cons_mk (Below.trod RowKit.laidOut (by kernel_rfl) (of_decide_eq_true (by kernel_rfl)) k1 bel lt1) (trodAll_cons_mk (shut_int Try.underlying5 w2) trodAll_mk0))),rfl,bel.frame _,fun h=>by cases h⟩
theorem proved:Rows.LeastPartsSaid :=
 OpenClaim.holds_of_wide 3 Try.f3 rfl rfl rfl rfl rfl rfl rfl ⟨rfl,rfl,rfl,rfl,rfl⟩ rfl rfl rfl rfl rfl (by kernel_rfl) Try.func3 (by kernel_rfl)
  (of_decide_eq_true (by kernel_rfl)) (by unfold Func.isWrapper;first|(rw[if_pos (by decide +kernel)];kernel_rfl)|(rw[if_neg (by decide +kernel)];exact⟨rfl,rfl⟩))
  (fun os started H enc _=>zgO os started H enc)
end Go.Proofs.Ytcgclkndkahgaaa.leastParts
