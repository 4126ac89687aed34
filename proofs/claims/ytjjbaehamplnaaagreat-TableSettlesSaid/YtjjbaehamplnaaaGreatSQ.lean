/- How any rule and any terminal are settled is the document's: the statement. Conditions: none but the row's own. -/
import Derived.Test.YtjjbaehamplnaaaGreatSP
set_option linter.all false
namespace Go.Proofs.YtjjbaehamplnaaaGreat.tableSettles
open Go.ChangeShapes Go.WideShapes Go.ChangeAt Go.RowKit
open Go.ChangeMaps (open_string shut_string)
set_option maxRecDepth 100000 in
theorem zl0 (os:Os) (started:os.Started) (H:Type) (enc:TypeId×Value->H) :
  ReturnsInHanded {} Tryz.checked os 5 .any (Rows.tableSettlesSpec.pre6 enc Tryz.prog Tryz.f5 Rows.tableSettlesRow.domain false) (Rows.tableSettlesSpec.post enc Tryz.prog Tryz.f5 false true false false):=by
 refine returnsInHanded_of_change_sized (C:=Tryz.checked) RowKit.own started (by kernel_rfl) Tryz.func5
  (ChangeSpec.witness6 (enc:=enc) (C:=Tryz.checked) false ⟨#[],#[.agg #[.slice none 0 0,.slice none 0 0,.slice none 0 0,.int .i64 0],.int .i64 0,.int .i64 0],[]⟩ 8 (by kernel_rfl) (by kernel_rfl) (by kernel_rfl) (by kernel_rfl)) ?_
 intro W base args ds gs before ab hW _ ac _;have aa:∀(j:Nat) t v,Tryz.f5.params[j]?=some t->args[j]?=some v->Value.okWide Tryz.prog W .any base t v:=ab;have af:=hW;obtain⟨p,q,ad,hV,rfl,ah,ai⟩:=hW;have hA:DataW.TrodAll enc Tryz.prog W 0 (fun _=>true) true Tryz.f5.params.toList args.toList ds p:=ad;have ag:(DataW.weightsEach Tryz.prog (Tryz.f5.params.toList++Rows.tableSettlesSpec.plain.varTypes Tryz.prog) (ds++gs)).all (·<=reachBytes)=true:=ac;rw[Tryz.params5]at hA aa ag;obtain⟨v0,vs0,d0,ds0,p0,q0,ae,rfl,rfl,h0,r0⟩:=trodAll_cons hA;obtain⟨v1,vs1,d1,ds1,p1,q1,rfl,rfl,rfl,h1,r1⟩:=trodAll_cons r0;obtain⟨v2,vs2,d2,ds2,p2,q2,rfl,rfl,rfl,h2,r2⟩:=trodAll_cons r1;obtain⟨rfl,rfl,rfl⟩:=trodAll_nil r2;obtain rfl:args=#[v0,v1,v2]:=by cases args;simp_all
 obtain⟨rfl,rfl⟩:=trodVars_none hV;have k0:=h0;have lt0:∀x∈p0,x.block<W.heap.size:=by obtain⟨m,hm⟩:=k0;exact DataW.trod_lt m _ _ _ hm
 obtain⟨G0,gr0,ft0⟩:=zhb Tryz.underlying26 (by kernel_rfl) (by kernel_rfl) Tryz.underlying22 Tryz.underlying85 (by kernel_rfl) (by kernel_rfl) Tryz.underlying9 Tryz.underlying3 Tryz.underlying3 Tryz.underlying23 Tryz.underlying9 (by kernel_rfl) Tryz.underlying24 Tryz.underlying74 (by kernel_rfl) (by kernel_rfl) Tryz.underlying3 Tryz.underlying51 Tryz.underlying3 (by kernel_rfl) Tryz.underlying3 Tryz.underlying3 (aa 0 26 v0 rfl rfl) h0;obtain⟨a1,rfl,rfl,rfl,w1⟩:=open_int Tryz.underlying3 (aa 1 3 v1 rfl rfl) h1;have bd1:=DT w1;obtain⟨a2,rfl,rfl,rfl,w2⟩:=open_int Tryz.underlying3 (aa 2 3 v2 rfl rfl) h2;have bd2:=DT w2;clear ad ab;refine(zbs v0 G0 a1 a2 W gr0 ft0).mono fun e W' ⟨he,bel⟩=>?_;subst he;exact⟨_,rfl,_,_,_,[],_,[],af,trodAll_mk1 (shut_bool Tryz.underlying4 _),(trodAll_cons_mk (Below.trod RowKit.laidOut (by kernel_rfl) (Cz (by kernel_rfl)) k0 bel lt0) (trodAll_cons_mk (shut_int Tryz.underlying3 w1) (trodAll_cons_mk (shut_int Tryz.underlying3 w2) trodAll_mk0))),rfl,bel.frame _,fun h=>by cases h⟩
theorem proved:Rows.TableSettlesSaid :=
 OpenClaim.holds_of_wide 5 Tryz.f5 rfl rfl rfl rfl rfl rfl rfl ⟨rfl,rfl,rfl,rfl,rfl⟩ rfl rfl rfl rfl rfl (by kernel_rfl) Tryz.func5 (by kernel_rfl)
  (Cz (by kernel_rfl)) (by unfold Func.isWrapper;first|(rw[Ap (by decide +kernel)];kernel_rfl)|(rw[AB (by decide +kernel)];exact⟨rfl,rfl⟩))
  (fun os started H enc _=>zl0 os started H enc)
end Go.Proofs.YtjjbaehamplnaaaGreat.tableSettles
