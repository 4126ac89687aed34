/- Any grammar's lookaheads are the document's, or refused, for its reason: the statement. Conditions: none but the row's own. -/
import Derived.Test.YtcmhaemaophplaaGreatXQ
set_option linter.all false
open Go.Proofs.Tryz
namespace Go.Proofs.YtcmhaemaophplaaGreat.lookOf
open Go.ChangeShapes Go.WideShapes Go.ChangeAt Go.RowKit
open Go.ChangeMaps (open_string shut_string)
set_option maxRecDepth 100000 in
theorem R4 (os:Os) (started:os.Started) (H:Type) (enc:TypeId×Value->H) :
  ReturnsInHanded {} Tryz.checked os 3 .any (Rows.lookOfSpec.pre6 enc prog Tryz.f3 Rows.lookOfRow.domain false) (Rows.lookOfSpec.post enc prog Tryz.f3 false true false false):=by
 refine returnsInHanded_of_change_sized (C:=Tryz.checked) RowKit.own started (by kernel_rfl) func3
  (ChangeSpec.witness6 (enc:=enc) (C:=Tryz.checked) false ⟨#[],#[.agg #[.slice none 0 0,.slice none 0 0,.slice none 0 0,.int .i64 0]],[]⟩ 8 (by kernel_rfl) (by kernel_rfl) (by kernel_rfl) (by kernel_rfl)) ?_
 intro W base args ds gs before aa hW _ ac _;have ab:∀(j:Nat) t v,Tryz.f3.params[j]?=some t->args[j]?=some v->Value.okWide prog W .any base t v:=aa;have af:=hW;obtain⟨p,q,ad,hV,rfl,ah,ai⟩:=hW;have hA:DataW.TrodAll enc prog W 0 (fun _=>true) true Tryz.f3.params.toList args.toList ds p:=ad;have ag:(DataW.weightsEach prog (Tryz.f3.params.toList++Rows.lookOfSpec.plain.varTypes prog) (ds++gs)).all (·<=reachBytes)=true:=ac;rw[Tryz.params3]at hA ab ag;obtain⟨v0,vs0,d0,ds0,p0,q0,ae,rfl,rfl,h0,r0⟩:=trodAll_cons hA;obtain⟨rfl,rfl,rfl⟩:=trodAll_nil r0;obtain rfl:args=#[v0]:=by cases args;simp_all
 obtain⟨rfl,rfl⟩:=trodVars_none hV;have k0:=h0;have lt0:∀x∈p0,x.block<W.heap.size:=by obtain⟨m,hm⟩:=k0;exact DataW.trod_lt m _ _ _ hm
 obtain⟨G0,mO,ft0⟩:=Po underlying26 (by kernel_rfl) (by kernel_rfl) underlying22 underlying81 (by kernel_rfl) (by kernel_rfl) underlying9 underlying3 underlying3 underlying23 underlying9 (by kernel_rfl) underlying24 underlying48 (by kernel_rfl) (by kernel_rfl) underlying3 underlying38 underlying3 (by kernel_rfl) underlying3 underlying3 (ab 0 26 v0 rfl rfl) h0;clear ad aa;refine(Ny v0 G0 W mO ft0).mono fun e W' ⟨he,bel⟩=>?_;subst he;exact⟨_,rfl,_,_,_,[],_,[],af,trodAll_mk1 (shut_bool underlying4 _),(trodAll_cons_mk (Below.trod RowKit.laidOut (by kernel_rfl) (Cy (by kernel_rfl)) k0 bel lt0) trodAll_mk0),rfl,bel.frame _,fun h=>by cases h⟩
theorem proved:Rows.LookOfSaid :=
 OpenClaim.holds_of_wide 3 Tryz.f3 rfl rfl rfl rfl rfl rfl rfl ⟨rfl,rfl,rfl,rfl,rfl⟩ rfl rfl rfl rfl rfl (by kernel_rfl) func3 (by kernel_rfl)
  (Cy (by kernel_rfl)) (by unfold Func.isWrapper;first|(rw[AC (by decide +kernel)];kernel_rfl)|(rw[AI (by decide +kernel)];exact⟨rfl,rfl⟩))
  (fun os started H enc _=>R4 os started H enc)
end Go.Proofs.YtcmhaemaophplaaGreat.lookOf
