/- Lookaheads stand for the rules' ends of their states, and for no others: the statement. Conditions: none but the row's own. -/
import Derived.Test.YtcmhaemaophplaaGreatW2Q
set_option linter.all false
namespace Go.Proofs.YtcmhaemaophplaaGreat.lookStands
open Go.ChangeShapes Go.WideShapes Go.ChangeAt Go.RowKit
open Go.ChangeMaps (open_string shut_string)
set_option maxRecDepth 100000 in
theorem zl8 (os:Os) (started:os.Started) (H:Type) (enc:TypeId×Value->H) :
  ReturnsInHanded {} Tryz.checked os 6 .any (Rows.lookStandsSpec.pre6 enc Tryz.prog Tryz.f6 Rows.lookStandsRow.domain false) (Rows.lookStandsSpec.post enc Tryz.prog Tryz.f6 false true false false):=by
 refine returnsInHanded_of_change_sized (C:=Tryz.checked) RowKit.own started (by kernel_rfl) Tryz.func6
  (ChangeSpec.witness6 (enc:=enc) (C:=Tryz.checked) false ⟨#[],#[.agg #[.slice none 0 0,.slice none 0 0,.slice none 0 0,.int .i64 0]],[]⟩ 8 (by kernel_rfl) (by kernel_rfl) (by kernel_rfl) (by kernel_rfl)) ?_
 intro W base args ds gs before aa hW _ ac _;have ab:∀(j:Nat) t v,Tryz.f6.params[j]?=some t->args[j]?=some v->Value.okWide Tryz.prog W .any base t v:=aa;have af:=hW;obtain⟨p,q,ad,hV,rfl,ah,ai⟩:=hW;have hA:DataW.TrodAll enc Tryz.prog W 0 (fun _=>true) true Tryz.f6.params.toList args.toList ds p:=ad;have ag:(DataW.weightsEach Tryz.prog (Tryz.f6.params.toList++Rows.lookStandsSpec.plain.varTypes Tryz.prog) (ds++gs)).all (·<=reachBytes)=true:=ac;rw[Tryz.params6]at hA ab ag;obtain⟨v0,vs0,d0,ds0,p0,q0,ae,rfl,rfl,h0,r0⟩:=trodAll_cons hA;obtain⟨rfl,rfl,rfl⟩:=trodAll_nil r0;obtain rfl:args=#[v0]:=by cases args;simp_all
 obtain⟨rfl,rfl⟩:=trodVars_none hV;have k0:=h0;have lt0:∀x∈p0,x.block<W.heap.size:=by obtain⟨m,hm⟩:=k0;exact DataW.trod_lt m _ _ _ hm
 obtain⟨G0,gr0,ft0⟩:=zhp Tryz.underlying26 (by kernel_rfl) (by kernel_rfl) Tryz.underlying22 Tryz.underlying81 (by kernel_rfl) (by kernel_rfl) Tryz.underlying9 Tryz.underlying3 Tryz.underlying3 Tryz.underlying23 Tryz.underlying9 (by kernel_rfl) Tryz.underlying24 Tryz.underlying48 (by kernel_rfl) (by kernel_rfl) Tryz.underlying3 Tryz.underlying38 Tryz.underlying3 (by kernel_rfl) Tryz.underlying3 Tryz.underlying3 (ab 0 26 v0 rfl rfl) h0;clear ad aa;refine(zcn v0 G0 W gr0 ft0).mono fun e W' ⟨he,bel⟩=>?_;subst he;exact⟨_,rfl,_,_,_,[],_,[],af,trodAll_mk1 (shut_bool Tryz.underlying4 _),(trodAll_cons_mk (Below.trod RowKit.laidOut (by kernel_rfl) (Co (by kernel_rfl)) k0 bel lt0) trodAll_mk0),rfl,bel.frame _,fun h=>by cases h⟩
theorem proved:Rows.LookStandsSaid :=
 OpenClaim.holds_of_wide 6 Tryz.f6 rfl rfl rfl rfl rfl rfl rfl ⟨rfl,rfl,rfl,rfl,rfl⟩ rfl rfl rfl rfl rfl (by kernel_rfl) Tryz.func6 (by kernel_rfl)
  (Co (by kernel_rfl)) (by unfold Func.isWrapper;first|(rw[Az (by decide +kernel)];kernel_rfl)|(rw[AG (by decide +kernel)];exact⟨rfl,rfl⟩))
  (fun os started H enc _=>zl8 os started H enc)
end Go.Proofs.YtcmhaemaophplaaGreat.lookStands
