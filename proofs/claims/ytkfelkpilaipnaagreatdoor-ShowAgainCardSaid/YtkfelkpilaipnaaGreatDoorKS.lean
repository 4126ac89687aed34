/- What is read from any text, printed, read and printed again, is the same grammar, and the same text; of up to 2000 bytes: the statement. Conditions: none but the row's own; the listed tables of the library hold what the program's text lays (the card ties them). -/
import Derived.HandedShaped
import Derived.Test.YtkfelkpilaipnaaGreatDoorCards
import Derived.Test.YtkfelkpilaipnaaGreatDoorTie
import Derived.SevenTiedAt
import Derived.Test.YtkfelkpilaipnaaGreatDoorKR
namespace Go.Proofs.YtkfelkpilaipnaaGreatDoor.showAgain
open Go.ChangeShapes Go.WideShapes Go.ChangeAt Go.RowKit
open Go.ChangeMaps (open_string shut_string)
set_option maxRecDepth 100000 in
theorem lifted (os:Os) (started:os.Started) (H:Type) (enc:TypeId×Value→H) :
  ReturnsInHanded {} Tryz.checked os 5 .any (fun w args=>(Rows.showAgainSpec.pre enc Tryz.prog Tryz.f5 [] false w args∧laidMetH Tryz.prog RowKit.LT w)∧sizedMet enc Tryz.prog Tryz.f5 (OpenSpec.ofChange Rows.showAgainSpec) false w args)
   (Rows.showAgainSpec.post enc Tryz.prog Tryz.f5 false true false false):=by
 refine RowKit.tied_shaped (C:=Tryz.checked) (X:=fun w=>laidMetH Tryz.prog RowKit.LT w) (fun _ _ hh h=>h.of_heap hh) RowKit.own started (by kernel_rfl) Tryz.func5
  (ChangeSpec.witness_shaped (enc:=enc) (C:=Tryz.checked) (os:=os) (X:=fun w _=>laidMetH Tryz.prog RowKit.LT w) false (World.doorLaid Tryz.prog 400 os) #[.slice none 0 0] 8 rfl (World.shaped_of_RefB (by kernel_rfl) (by kernel_rfl)) (by kernel_rfl) (by kernel_rfl) (by kernel_rfl) (RowKit.door_met os _)) ?_
 intro W base args ds gs before hval0 hW hsz0 hL hsh
 have hval:∀(j:Nat) t v,Tryz.f5.params[j]?=some t→args[j]?=some v→Value.okWide Tryz.prog W .any base t v:=hval0
 have hW':=hW
 obtain⟨p,q,hA0,hV,rfl,hfz,hnd⟩:=hW
 have hA:DataW.TrodAll enc Tryz.prog W 0 (fun _=>true) true Tryz.f5.params.toList args.toList ds p:=hA0
 have hsz:(DataW.weightsEach Tryz.prog (Tryz.f5.params.toList++Rows.showAgainSpec.plain.varTypes Tryz.prog) (ds++gs)).all (·≤reachBytes)=true:=hsz0
 rw[Tryz.params5]at hA hval hsz
 obtain⟨v0,vs0,d0,ds0,p0,q0,hargs,rfl,rfl,h0,r0⟩:=trodAll_cons hA
 obtain⟨rfl,rfl,rfl⟩:=trodAll_nil r0
 obtain rfl:args=#[v0]:=by cases args;simp_all
 obtain⟨rfl,rfl⟩:=trodVars_none hV
 obtain⟨a0,len0,cap0,rfl⟩:=okWide_slice Tryz.underlying40 (hval 0 40 v0 rfl rfl)
 have k0:=h0
 have lt0:∀x∈p0,x.block<W.heap.size:=by obtain⟨m,hm⟩:=k0;exact DataW.trod_lt m _ _ _ hm
 obtain⟨z0,w0,sz0⟩:∃zs,ziC W a0 len0 cap0 zs∧cap0*1≤140737488351232:=by
  obtain⟨fuel,hf⟩:=h0
  rcases open_ints Tryz.underlying40 Tryz.underlying5 (by kernel_rfl) hf with⟨hcs,_⟩|⟨x,l,c,zs,hcs,_,hl,hm,hz,hx,hcell,hwz⟩
  ·simp[Value.cells]at hcs
   obtain⟨rfl,rfl,rfl⟩:=hcs
   exact⟨[],.inl ⟨rfl,rfl,rfl,rfl⟩,by omega⟩
  ·simp[Value.cells]at hcs
   obtain⟨rfl,rfl,rfl⟩:=hcs
   have hz1:zs.length=cap0:=by simpa using hz
   cases hx
   have hs:=sized_slice hsz (j:=0) (t:=40) (e:=5) rfl rfl Tryz.underlying40
   have hby:Tryz.prog.bytesOf 5=1:=by kernel_rfl
   have hre:reachBytes=140737488351232:=by decide
   rw[hby,hre]at hs
   refine⟨zs,.inr ⟨_,rfl,hl,hm,hz1,hcell,hwz⟩,?_⟩
   simp only[lits,List.length_map,List.length_take,List.length_drop]at hs
   have h3:min len0 zs.length+(zs.length-len0)=cap0:=by omega
   rw[h3]at hs;exact hs
 obtain⟨xs0,rfl,hlc0,hcm0,hwf0,hrd0⟩:=w0.rd
 clear hA0 hval0
 have hml:ML W:=Tryz.laysM185.s1_3 W hsh
 have tb0:=RowKit.tab0 hL
 refine(zcL a0 cap0 xs0 W hrd0 (fun z hz=>by have:=bounds_u8 (hwf0 z hz);omega) hlc0 hml tb0).mono fun e W' ⟨he,bel⟩=>?_
 subst he
 exact⟨_,rfl,_,_,_,[],_,[],hW',trodAll_mk1 (shut_bool Tryz.underlying4 _),(trodAll_cons_mk (Below.trod RowKit.laidOut (by kernel_rfl) (of_decide_eq_true (by kernel_rfl)) k0 bel lt0) trodAll_mk0),rfl,bel.frame _,fun h=>by cases h⟩
theorem over:Rows.ShowAgainSaid :=
 OpenClaim.holds_of_wide 5 Tryz.f5 rfl rfl rfl rfl rfl rfl rfl ⟨rfl,rfl,rfl,rfl,rfl⟩ rfl rfl rfl rfl rfl (by kernel_rfl) Tryz.func5 (by kernel_rfl)
  (of_decide_eq_true (by kernel_rfl)) (by unfold Func.isWrapper;first|(rw[if_pos (by decide +kernel)];kernel_rfl)|(rw[if_neg (by decide +kernel)];exact⟨rfl,rfl⟩))
  (fun os started H enc _=>lifted os started H enc)
theorem proved:Rows.ShowAgainCardSaid :=
 Claim7.holds_tied_plain_at .later [] [.data] true Rows.showAgainCard.stood.harness true
  over (fun _ h=>by cases h) (by kernel_rfl) (fun _ h=>by cases h) showAgain_row_tie rfl ⟨rfl,rfl⟩ (by kernel_rfl) rfl
  (fun f fn hf hfn=>by
   obtain rfl:f=5:=Option.some.inj ((show Tryz.prog.funcNamed "gerund/gerundlaw10.ShowAgain" = some 5 by kernel_rfl).symm.trans hf) |>.symm
   obtain rfl:fn=Tryz.f5:=(Option.some.inj (Tryz.func5.symm.trans hfn)).symm
   exact⟨by kernel_rfl,fun j t ht=>by
    rw[Tryz.params5]at ht
    have hm:t∈[40]:=by simpa using Array.mem_of_getElem? ht
    have hall:([40].all fun u=>!Tryz.prog.wantsStandIn u)=true:=by kernel_rfl
    exact(show Tryz.prog.wantsStandIn t=false by simpa using List.all_eq_true.1 hall t hm)⟩)
  (by kernel_rfl)
end Go.Proofs.YtkfelkpilaipnaaGreatDoor.showAgain
