/- Where any symbols lead, in any states, is the document's; of up to 100 symbols: the statement. Conditions: none but the row's own. -/
import Derived.Test.YtabmfpgpkbndeaaGreatKBB
namespace Go.Proofs.YtabmfpgpkbndeaaGreat.autoWalks
open Go.ChangeShapes Go.WideShapes Go.ChangeAt Go.RowKit
open Go.ChangeMaps (open_string shut_string)
set_option maxRecDepth 100000 in
theorem lifted (os:Os) (started:os.Started) (H:Type) (enc:TypeId×Value→H) :
  ReturnsInHanded {} Tryz.checked os 5 .any (Rows.autoWalksSpec.pre6 enc Tryz.prog Tryz.f5 Rows.autoWalksRow.domain false) (Rows.autoWalksSpec.post enc Tryz.prog Tryz.f5 false true false false):=by
 refine returnsInHanded_of_change_sized (C:=Tryz.checked) RowKit.own started (by kernel_rfl) Tryz.func5
  (ChangeSpec.witness6 (enc:=enc) (C:=Tryz.checked) false ⟨#[],#[.slice none 0 0,.int .i64 0,.slice none 0 0],[]⟩ 8 (by kernel_rfl) (by kernel_rfl) (by kernel_rfl) (by kernel_rfl)) ?_
 intro W base args ds gs before hval0 hW _ hsz0 _
 have hval:∀(j:Nat) t v,Tryz.f5.params[j]?=some t→args[j]?=some v→Value.okWide Tryz.prog W .any base t v:=hval0
 have hW':=hW
 obtain⟨p,q,hA0,hV,rfl,hfz,hnd⟩:=hW
 have hA:DataW.TrodAll enc Tryz.prog W 0 (fun _=>true) true Tryz.f5.params.toList args.toList ds p:=hA0
 have hsz:(DataW.weightsEach Tryz.prog (Tryz.f5.params.toList++Rows.autoWalksSpec.plain.varTypes Tryz.prog) (ds++gs)).all (·≤reachBytes)=true:=hsz0
 rw[Tryz.params5]at hA hval hsz
 obtain⟨v0,vs0,d0,ds0,p0,q0,hargs,rfl,rfl,h0,r0⟩:=trodAll_cons hA
 obtain⟨v1,vs1,d1,ds1,p1,q1,rfl,rfl,rfl,h1,r1⟩:=trodAll_cons r0
 obtain⟨v2,vs2,d2,ds2,p2,q2,rfl,rfl,rfl,h2,r2⟩:=trodAll_cons r1
 obtain⟨rfl,rfl,rfl⟩:=trodAll_nil r2
 obtain rfl:args=#[v0,v1,v2]:=by cases args;simp_all
 obtain⟨rfl,rfl⟩:=trodVars_none hV
 obtain⟨a0,len0,cap0,rfl⟩:=okWide_slice Tryz.underlying38 (hval 0 38 v0 rfl rfl)
 have k0:=h0
 have lt0:∀x∈p0,x.block<W.heap.size:=by obtain⟨m,hm⟩:=k0;exact DataW.trod_lt m _ _ _ hm
 obtain⟨ss0,hl0,hlc0,hcm0,hrd0,hin0⟩:∃ss,len0=ss.length∧len0≤cap0∧cap0≤9223372036854775807∧bI W W.heap.size a0 ss∧∀x∈ss,(∀y∈x.1,Gm.In y.1∧Gm.In y.2)∧∀y∈x.2,Gm.In y.1∧Gm.In y.2:=by
  obtain⟨fuel,hf⟩:=h0
  obtain⟨A,n,c,ss,hcs,h1,h2,h3,h4,h5⟩:=zg8 Tryz.underlying38 Tryz.underlying50 (by kernel_rfl) (by kernel_rfl) Tryz.underlying27 Tryz.underlying33 (by kernel_rfl) (by kernel_rfl) Tryz.underlying3 Tryz.underlying3 Tryz.underlying48 Tryz.underlying52 (by kernel_rfl) (by kernel_rfl) Tryz.underlying3 Tryz.underlying3 hf
  simp[Value.cells]at hcs
  obtain⟨rfl,rfl,rfl⟩:=hcs
  exact⟨ss,h1,h2,h3,h4,h5⟩
 subst hl0
 obtain⟨a1,rfl,rfl,rfl,w1⟩:=open_int Tryz.underlying3 (hval 1 3 v1 rfl rfl) h1
 have bd1:=bounds_i64 w1
 obtain⟨a2,len2,cap2,rfl⟩:=okWide_slice Tryz.underlying43 (hval 2 43 v2 rfl rfl)
 have k2:=h2
 have lt2:∀x∈p2,x.block<W.heap.size:=by obtain⟨m,hm⟩:=k2;exact DataW.trod_lt m _ _ _ hm
 obtain⟨z2,w2,sz2⟩:∃zs,zgN W a2 len2 cap2 zs∧cap2*8≤140737488351232:=by
  obtain⟨fuel,hf⟩:=h2
  rcases open_ints Tryz.underlying43 Tryz.underlying3 (by kernel_rfl) hf with⟨hcs,_⟩|⟨x,l,c,zs,hcs,_,hl,hm,hz,hx,hcell,hwz⟩
  ·simp[Value.cells]at hcs
   obtain⟨rfl,rfl,rfl⟩:=hcs
   exact⟨[],.inl ⟨rfl,rfl,rfl,rfl⟩,by omega⟩
  ·simp[Value.cells]at hcs
   obtain⟨rfl,rfl,rfl⟩:=hcs
   have hz1:zs.length=cap2:=by simpa using hz
   cases hx
   have hs:=sized_slice hsz (j:=2) (t:=43) (e:=3) rfl rfl Tryz.underlying43
   have hby:Tryz.prog.bytesOf 3=8:=by kernel_rfl
   have hre:reachBytes=140737488351232:=by decide
   rw[hby,hre]at hs
   refine⟨zs,.inr ⟨_,rfl,hl,hm,hz1,hcell,hwz⟩,?_⟩
   simp only[lits,List.length_map,List.length_take,List.length_drop]at hs
   have h3:min len2 zs.length+(zs.length-len2)=cap2:=by omega
   rw[h3]at hs;exact hs
 obtain⟨xs2,rfl,hlc2,hcm2,hwf2,hrd2⟩:=w2.rd
 clear hA0 hval0
 refine(zct ss0 a0 cap0 a1 xs2 a2 cap2 W hrd0 (by omega) hrd2 (by omega)).mono fun e W' ⟨he,bel⟩=>?_
 subst he
 exact⟨_,rfl,_,_,_,[],_,[],hW',trodAll_mk1 (shut_bool Tryz.underlying4 _),(trodAll_cons_mk (Below.trod RowKit.laidOut (by kernel_rfl) (of_decide_eq_true (by kernel_rfl)) k0 bel lt0) (trodAll_cons_mk (shut_int Tryz.underlying3 w1) (trodAll_cons_mk (Below.trod RowKit.laidOut (by kernel_rfl) (of_decide_eq_true (by kernel_rfl)) k2 bel lt2) trodAll_mk0))),rfl,bel.frame _,fun h=>by cases h⟩
theorem proved:Rows.AutoWalksSaid :=
 OpenClaim.holds_of_wide 5 Tryz.f5 rfl rfl rfl rfl rfl rfl rfl ⟨rfl,rfl,rfl,rfl,rfl⟩ rfl rfl rfl rfl rfl (by kernel_rfl) Tryz.func5 (by kernel_rfl)
  (of_decide_eq_true (by kernel_rfl)) (by unfold Func.isWrapper;first|(rw[if_pos (by decide +kernel)];kernel_rfl)|(rw[if_neg (by decide +kernel)];exact⟨rfl,rfl⟩))
  (fun os started H enc _=>lifted os started H enc)
end Go.Proofs.YtabmfpgpkbndeaaGreat.autoWalks
