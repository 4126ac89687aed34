/- Whether any table may be one of any grammar is the document's: the statement. Conditions: none but the row's own. -/
import Derived.Test.YtjjbaehamplnaaaGreatMP
set_option linter.all false
namespace Go.Proofs.YtjjbaehamplnaaaGreat.tableMay
open Go.ChangeShapes Go.WideShapes Go.ChangeAt Go.RowKit
open Go.ChangeMaps (open_string shut_string)
set_option maxRecDepth 100000 in
theorem zl8 (os:Os) (started:os.Started) (H:Type) (enc:TypeId×Value->H) :
  ReturnsInHanded {} Tryz.checked os 4 .any (Rows.tableMaySpec.pre6 enc Tryz.prog Tryz.f4 Rows.tableMayRow.domain false) (Rows.tableMaySpec.post enc Tryz.prog Tryz.f4 false true false false):=by
 refine returnsInHanded_of_change_sized (C:=Tryz.checked) RowKit.own started (by kernel_rfl) Tryz.func4
  (ChangeSpec.witness6 (enc:=enc) (C:=Tryz.checked) false ⟨#[],#[.agg #[.slice none 0 0,.slice none 0 0,.slice none 0 0,.int .i64 0],.agg #[.slice none 0 0,.slice none 0 0]],[]⟩ 8 (by kernel_rfl) (by kernel_rfl) (by kernel_rfl) (by kernel_rfl)) ?_
 intro W base args ds gs before aa hW _ ac _;have ab:∀(j:Nat) t v,Tryz.f4.params[j]?=some t->args[j]?=some v->Value.okWide Tryz.prog W .any base t v:=aa;have ag:=hW;obtain⟨p,q,ae,hV,rfl,ai,aj⟩:=hW;have hA:DataW.TrodAll enc Tryz.prog W 0 (fun _=>true) true Tryz.f4.params.toList args.toList ds p:=ae;have ah:(DataW.weightsEach Tryz.prog (Tryz.f4.params.toList++Rows.tableMaySpec.plain.varTypes Tryz.prog) (ds++gs)).all (·<=reachBytes)=true:=ac;rw[Tryz.params4]at hA ab ah;obtain⟨v0,vs0,d0,ds0,p0,q0,af,rfl,rfl,h0,r0⟩:=trodAll_cons hA;obtain⟨v1,vs1,d1,ds1,p1,q1,rfl,rfl,rfl,h1,r1⟩:=trodAll_cons r0;obtain⟨rfl,rfl,rfl⟩:=trodAll_nil r1;obtain rfl:args=#[v0,v1]:=by cases args;simp_all
 obtain⟨rfl,rfl⟩:=trodVars_none hV;have k0:=h0;have lt0:∀x∈p0,x.block<W.heap.size:=by obtain⟨m,hm⟩:=k0;exact DataW.trod_lt m _ _ _ hm
 obtain⟨G0,gr0,ft0⟩:=zhg Tryz.underlying26 (by kernel_rfl) (by kernel_rfl) Tryz.underlying22 Tryz.underlying85 (by kernel_rfl) (by kernel_rfl) Tryz.underlying9 Tryz.underlying3 Tryz.underlying3 Tryz.underlying23 Tryz.underlying9 (by kernel_rfl) Tryz.underlying24 Tryz.underlying74 (by kernel_rfl) (by kernel_rfl) Tryz.underlying3 Tryz.underlying51 Tryz.underlying3 (by kernel_rfl) Tryz.underlying3 Tryz.underlying3 (ab 0 26 v0 rfl rfl) h0;have k1:=h1;have lt1:∀x∈p1,x.block<W.heap.size:=by obtain⟨m,hm⟩:=k1;exact DataW.trod_lt m _ _ _ hm
 obtain⟨tr1,tg1,rt1,ad⟩:=ziT Tryz.underlying33 (by kernel_rfl) (by kernel_rfl) Tryz.underlying30 Tryz.underlying64 Tryz.underlying63 (by kernel_rfl) (by kernel_rfl) Tryz.underlying3 Tryz.underlying3 Tryz.underlying31 Tryz.underlying51 Tryz.underlying3 (by kernel_rfl) (by kernel_rfl) (by kernel_rfl) (ab 1 33 v1 rfl rfl) h1;clear ae aa;refine(zcU v0 v1 G0 tr1 tg1 W gr0 ft0 rt1 ad).mono fun e W' ⟨he,bel⟩=>?_;subst he;exact⟨_,rfl,_,_,_,[],_,[],ag,trodAll_mk1 (shut_bool Tryz.underlying4 _),(trodAll_cons_mk (Below.trod RowKit.laidOut (by kernel_rfl) (Cq (by kernel_rfl)) k0 bel lt0) (trodAll_cons_mk (Below.trod RowKit.laidOut (by kernel_rfl) (Cq (by kernel_rfl)) k1 bel lt1) trodAll_mk0)),rfl,bel.frame _,fun h=>by cases h⟩
theorem proved:Rows.TableMaySaid :=
 OpenClaim.holds_of_wide 4 Tryz.f4 rfl rfl rfl rfl rfl rfl rfl ⟨rfl,rfl,rfl,rfl,rfl⟩ rfl rfl rfl rfl rfl (by kernel_rfl) Tryz.func4 (by kernel_rfl)
  (Cq (by kernel_rfl)) (by unfold Func.isWrapper;first|(rw[Ap (by decide +kernel)];kernel_rfl)|(rw[AB (by decide +kernel)];exact⟨rfl,rfl⟩))
  (fun os started H enc _=>zl8 os started H enc)
end Go.Proofs.YtjjbaehamplnaaaGreat.tableMay
