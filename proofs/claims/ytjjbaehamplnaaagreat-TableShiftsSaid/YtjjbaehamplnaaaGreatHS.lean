/- It is shifted only as an edge says, and, without conflicts, wherever one does; gotos are just the edges: the statement. Conditions: none but the row's own. -/
import Derived.Test.YtjjbaehamplnaaaGreatHR
set_option linter.all false
open Go.Proofs.Tryz
namespace Go.Proofs.YtjjbaehamplnaaaGreat.tableShifts
open Go.ChangeShapes Go.WideShapes Go.ChangeAt Go.RowKit
open Go.ChangeMaps (open_string shut_string)
set_option maxRecDepth 100000 in
theorem Uf (os:Os) (started:os.Started) (H:Type) (enc:TypeId×Value->H) :
  ReturnsInHanded {} Tryz.checked os 7 .any (Rows.tableShiftsSpec.pre6 enc prog Tryz.f7 Rows.tableShiftsRow.domain false) (Rows.tableShiftsSpec.post enc prog Tryz.f7 false true false false):=by
 refine returnsInHanded_of_change_sized (C:=Tryz.checked) RowKit.own started κ func7
  (ChangeSpec.witness6 (enc:=enc) (C:=Tryz.checked) false ⟨#[],#[.agg #[.slice none 0 0,.slice none 0 0,.slice none 0 0,.int .i64 0],.int .u16 0],[]⟩ 8 κ κ κ κ) ?_
 intro W base args ds gs before aa hW _ ac _;have ab:∀(j:Nat) t v,Tryz.f7.params[j]?=some t->args[j]?=some v->Value.okWide prog W .any base t v:=aa;have af:=hW;obtain⟨p,q,ad,hV,rfl,ah,ai⟩:=hW;have hA:DataW.TrodAll enc prog W 0 (fun _=>true) true Tryz.f7.params.toList args.toList ds p:=ad;have ag:(DataW.weightsEach prog (Tryz.f7.params.toList++Rows.tableShiftsSpec.plain.varTypes prog) (ds++gs)).all (·<=reachBytes)=true:=ac;rw[Tryz.params7]at hA ab ag;obtain⟨v0,vs0,d0,ds0,p0,q0,ae,rfl,rfl,h0,r0⟩:=trodAll_cons hA;obtain⟨v1,vs1,d1,ds1,p1,q1,rfl,rfl,rfl,h1,r1⟩:=trodAll_cons r0;obtain⟨rfl,rfl,rfl⟩:=trodAll_nil r1;obtain rfl:args=#[v0,v1]:=by cases args;simp_all
 obtain⟨rfl,rfl⟩:=trodVars_none hV;have k0:=h0;have lt0:∀x∈p0,x.block<W.heap.size:=by obtain⟨m,hm⟩:=k0;exact DataW.trod_lt m _ _ _ hm
 obtain⟨G0,lU,ft0⟩:=Qq underlying26 κ κ underlying22 underlying85 κ κ underlying9 underlying3 underlying3 underlying23 underlying9 κ underlying24 underlying74 κ κ underlying3 underlying51 underlying3 κ underlying3 underlying3 (ab 0 26 v0 rfl rfl) h0;obtain⟨a1,rfl,rfl,rfl,w1⟩:=open_int underlying67 (ab 1 67 v1 rfl rfl) h1;have bd1:=bounds_u16 w1;obtain⟨n1,rfl⟩:=Int.eq_ofNat_of_zero_le bd1.1;clear ad aa;refine(Oe v0 G0 n1 W lU ft0 ω).mono fun e W' ⟨he,bel⟩=>?_;subst he;exact⟨_,rfl,_,_,_,[],_,[],af,trodAll_mk1 (shut_bool underlying4 _),(trodAll_cons_mk (Below.trod RowKit.laidOut κ (CN κ) k0 bel lt0) (trodAll_cons_mk (shut_int underlying67 w1) trodAll_mk0)),rfl,bel.frame _,fun h=>by cases h⟩
theorem proved:Rows.TableShiftsSaid :=
 OpenClaim.holds_of_wide 7 Tryz.f7 rfl rfl rfl rfl rfl rfl rfl ⟨rfl,rfl,rfl,rfl,rfl⟩ rfl rfl rfl rfl rfl κ func7 κ
  (CN κ) (by unfold Func.isWrapper;first|(rw[Az (by decide +kernel)];kernel_rfl)|(rw[AJ (by decide +kernel)];exact⟨rfl,rfl⟩))
  (fun os started H enc _=>Uf os started H enc)
end Go.Proofs.YtjjbaehamplnaaaGreat.tableShifts
