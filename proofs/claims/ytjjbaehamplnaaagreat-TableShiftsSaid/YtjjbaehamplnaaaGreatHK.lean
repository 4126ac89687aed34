/- Part of the proofs over this program: MapU, LkFn, AuAdd, LkSt, AuAdd2, AuBegin, Sort, AuSort, AuClos, AuText, AuSt, AuNum. -/
import Derived.Shelf.SlGeneric
import Derived.Shelf.SlSortCmp.NoneTotal
import Derived.Ground.SlsfProg
import Derived.Ground.NamesProg
import Derived.Test.YtjjbaehamplnaaaGreatHJ
set_option linter.all false
namespace Go
def Ep:=@List.length_reverse
end Go
open Go.RowKit Go.Proofs.Tryz
set_option maxRecDepth 100000
set_option maxHeartbeats 40000000
variable {A:Option Go.Addr} {G:Go.Proofs.YtjjbaehamplnaaaGreat.Gm.Gr} {M N N' NE base base' g i n:Nat} {P:Go.Program} {cs:Array Go.Value} {fr:Nat×Nat} {s:Int} {u v:Go.Value} {w w':Go.World} {xs:List Go.Value}
namespace Go.Mw
open Go.RowKit Go.Maps
section
variable {P:Program} {kt:TypeId} {κ:Type} {E:qO P kt κ} {w:World} {b:Nat} {l:List (κ×Value)}
def jJ (E:qO P kt κ) (w:World) (b:Nat) (l:List (κ×Value)):Prop :=
 ∃es clock,w.heap[b]?=some (.map es clock)/\es.toList.map (fun e=>(e.key,e.val))=l.map (fun p=>(E.enc p.1,p.2))/\(∀p∈l,E.ok p.1)/\(l.map Prod.fst).Nodup/\(∀e∈es.toList,e.born<clock)/\(es.toList.map (·.born)).Nodup
theorem jJ.is (h:jJ E w b l):fw E w b l:=by
 obtain⟨es,clock,h1,h2,h3,h4,_⟩:=h;exact⟨es,clock,h1,h2,h3,h4⟩
theorem jJ.lt (h:jJ E w b l):b<w.heap.size:=h.is.lt
theorem jJ.block (h:jJ E w b l) (hg:w'.heap[b]?=w.heap[b]?):jJ E w' b l:=by
 obtain⟨es,clock,hb,r⟩:=h;exact⟨es,clock,hg.trans hb,r⟩
variable [DecidableEq κ]
def Vq (E:qO P kt κ) (t:TypeId) (w:World) (b:Nat) (l:List (κ×Value)) (x:κ) (c:Value):Prop :=
 b<w.heap.size/\∀w2:World,w2.heap[b]?=w.heap[b]?->∀v:Value,∃w3,(Instr.entryStore t (.map (some b)) c v).run P w2=.ok () w3/\jJ E w3 b (hX l x v)/\w2.grownBy w3 (some b)
theorem TM {es:List MapEntry} {e:MapEntry} {j:Nat} (hn:(es.map (·.born)).Nodup) (h:es[j]?=some e):es.findIdx? (fun x=>(x.born:Int)==(e.born:Int))=some j:=by
 induction es generalizing j with
 | nil=>simp at h
 | cons y r ih =>
  rw[Bw,EX]at hn;rw[List.findIdx?_cons];cases j with
  | zero =>
   simp only[Ai,E6]at h;subst h;simp
  | succ j =>
   rw[Am]at h
   have aa:((y.born:Int)==(e.born:Int))=false:=by
    rw[Bc];intro q;have q:y.born=e.born:=ω
    exact hn.1 (Bo.2 ⟨e,C8 h,q.symm⟩)
   rw[aa,ih hn.2 h];simp
theorem Lq {x:κ} {α:Type} {v:α}:∀ {l:List (κ×α)},fH l x=some v->hX l x v=l
 | (k,u)::r,h=>by
  unfold fH at h;unfold hX;by_cases e:k=x
  ·rw[Az e]at h ⊢;injection h with h;rw[h]
  ·rw[AJ e]at h ⊢;rw[Lq h]
theorem sI {t e:TypeId} (h:jJ E w b l) (K:Keyed P kt) (ht:P.underlying t=some (.map kt e)) {z:Value} (hz:(zeroValue e).run P w=.ok z w) {x:κ} (hx:E.ok x) :
  ∃(u c:Value) (w':World),(Instr.mapEntry t (.map (some b)) (E.enc x)).run P w=.ok (.tuple #[u,c]) w'/\Vq E t w' b l x c/\fw E w' b (hX l x ((fH l x).getD z))/\w.grownBy w' (some b):=by
 obtain⟨lx,ab⟩:=E.key x hx;have h0:=h;obtain⟨es,clock,hb,he,hf⟩:=jz h.is K hx;obtain⟨es0,clock0,k,ak,hk,m,n,ac⟩:=h0;rw[hb]at k;injection k with k;injection k with k aj;subst k aj;have ah:b<w.heap.size:=(Ad.1 hb).1;rcases hf with⟨h1,h2⟩|⟨j,e0,h1,h2,h3,h4,h5⟩
 ·refine⟨z,goInt clock,ChangeMaps.setBlock w b (.map (es.push ⟨E.enc x,z,clock⟩) (clock+1)),?_,⟨by simpa[ChangeMaps.setBlock] using ah,fun w2 f v=>?_⟩,?_,⟨rfl,rfl,rfl,by simp[ChangeMaps.setBlock],fun i _ hi=>Cn hb _ (fun e=>hi (by rw[e]))⟩⟩
  ·simp[Instr.mapEntry,Dc ht,Cs hb,K.check w false ab,h1,hz,CT _ hb,Result.andThen,ChangeMaps.setBlock]
  ·rw[B8 hb]at f
   have ad:(es.push ⟨E.enc x,z,clock⟩).findIdx? (fun e=>(e.born:Int)==(clock:Int))=some es.size:=by
    rw[Go.WideElems.findIdx_arr,CK,Li n _ rfl];simp
   have ae:(es.push ⟨E.enc x,z,clock⟩).modify es.size (fun e=>{e with val:=v})=es.push ⟨E.enc x,v,clock⟩:=by
    apply EI;rw[DX,CK,CK]
    have:∀(l:List MapEntry) (a:MapEntry),(l++[a]).modify l.length (fun e=>{e with val:=v})=l++[{a with val:=v}]:=fun l a=>by
     induction l with
     | nil=>rfl
     | cons y r ih=>rw[Ct,Bz,List.modify_succ_cons,ih];rfl
    exact this es.toList _
   refine⟨ChangeMaps.setBlock w2 b (.map (es.push ⟨E.enc x,v,clock⟩) (clock+1)),?_,?_,⟨rfl,rfl,rfl,by simp[ChangeMaps.setBlock],fun i _ hi=>Cn f _ (fun e=>hi (by rw[e]))⟩⟩
   ·simp[Instr.entryStore,Cs f,asInt,asIntOf,goInt,ad,ae,CT _ f,Result.andThen,ChangeMaps.setBlock]
   ·rw[jr h2];refine⟨_,_,B8 f _,?_,?_,?_,?_,?_⟩
    ·rw[CK,Bi,Bi,he];rfl
    ·intro p hp;rcases Bs.1 hp with q|q
     ·exact hk p q
     ·rw[AW]at q;subst q;exact hx
    ·rw[Bi,Cz];refine⟨m,σ,fun a ha d hd=>?_⟩;obtain⟨p,hp,rfl⟩:=Bo.1 ha;simp only[Bw,Dh,AW]at hd;subst hd;exact FF.1 h2 p hp
    ·intro e he;rw[CK]at he;rcases Bs.1 he with q|q
     ·have:=n e q;omega
     ·rw[AW]at q;subst q;simp
    ·rw[CK,Bi,Cz];refine⟨ac,σ,fun a ha d hd=>?_⟩;obtain⟨p,hp,rfl⟩:=Bo.1 ha;simp only[Bw,Dh,AW]at hd
     have:=n p hp
     omega
  ·rw[h2,Option.getD_none,jr h2];refine⟨_,_,B8 hb _,?_,?_,?_⟩
   ·rw[CK,Bi,Bi,he];rfl
   ·intro p hp;rcases Bs.1 hp with q|q
    ·exact hk p q
    ·rw[AW]at q;subst q;exact hx
   ·rw[Bi,Cz];refine⟨m,σ,fun a ha d hd=>?_⟩;obtain⟨p,hp,rfl⟩:=Bo.1 ha;simp only[Bw,Dh,AW]at hd;subst hd;exact FF.1 h2 p hp
 ·have hj:es[j]?=some e0:=by simpa using h2
  have ai:j<es.size:=(Ad.1 hj).1
  have aa:es.modify j (fun e=>{e with key:=E.enc x})=es:=by
   apply EI;rw[DX,Ek _ _ _ _ h2];refine C3 fun i=>?_;rw[Dq];by_cases g:j=i
   ·subst g;rw[Az rfl,Az (by simpa using ai),h2,<-h3]
   ·rw[AJ g]
  refine⟨e0.val,goInt e0.born,ChangeMaps.setBlock w b (.map es clock),?_,⟨by simpa[ChangeMaps.setBlock] using ah,fun w2 f v=>?_⟩,by rw[h4,Bu,Lq h4];exact⟨es,clock,B8 hb _,he,hk,m⟩,⟨rfl,rfl,rfl,by simp[ChangeMaps.setBlock],fun i _ hi=>Cn hb _ (fun e=>hi (by rw[e]))⟩⟩
  ·simp[Instr.mapEntry,Dc ht,Cs hb,K.check w false ab,h1,hj,h3,K.stays w ab,CT _ hb,Result.andThen,ChangeMaps.setBlock,aa]
  ·rw[B8 hb]at f
   have ad:es.findIdx? (fun e=>(e.born:Int)==(e0.born:Int))=some j:=by
    rw[Go.WideElems.findIdx_arr,TM ac h2]
   refine⟨ChangeMaps.setBlock w2 b (.map (es.modify j (fun e=>{e with val:=v})) clock),?_,?_,⟨rfl,rfl,rfl,by simp[ChangeMaps.setBlock],fun i _ hi=>Cn f _ (fun e=>hi (by rw[e]))⟩⟩
   ·simp[Instr.entryStore,Cs f,asInt,asIntOf,goInt,ad,CT _ f,Result.andThen,ChangeMaps.setBlock]
   ·have af:(es.modify j (fun e=>{e with val:=v})).toList=es.toList.set j {e0 with val:=v}:=by
     rw[DX,Ek _ _ _ _ h2]
    rw[JD m h5];refine⟨_,_,B8 f _,?_,?_,?_,?_,?_⟩
    ·rw[af,Cy,Cy,he,h3]
    ·intro p hp;rcases DI hp with q|q
     ·exact hk p q
     ·rw[q];exact hx
    ·have e1:(l.set j (x,v)).map Prod.fst=l.map Prod.fst:=by
      rw[Cy];refine C3 fun i=>?_;rw[Dq];by_cases g:j=i
      ·subst g;have ag:j<(l.map Prod.fst).length:=by rw[Bh];exact(Bk.1 h5).1
       rw[Az rfl,Az ag,BO,h5];rfl
      ·rw[AJ g]
     rw[e1];exact m
    ·intro e he;rw[af]at he;rcases DI he with q|q
     ·exact n e q
     ·rw[q];exact n e0 (C8 h2)
    ·have e1:(es.toList.set j {e0 with val:=v}).map (·.born)=es.toList.map (·.born):=by
      rw[Cy];refine C3 fun i=>?_;rw[Dq];by_cases g:j=i
      ·subst g;have ag:j<(es.toList.map (·.born)).length:=by rw[Bh];simpa using ai
       rw[Az rfl,Az ag,BO,h2];rfl
      ·rw[AJ g]
     rw[af,e1];exact ac
end
end Go.Mw
namespace Go.Proofs.YtjjbaehamplnaaaGreat
theorem Mg (z:Int) (hz:-9223372036854775808<=z) (aa:z<=9223372036854775807) (w:World) :
  Calls prog 149 #[.int .i64 z] w fun e w'=>e=.returned (.int .i64 (-1-z))/\w'=w:=by
 have hs:IntKind.i64.wrap (-1-z) = -1-z:=BV _ ω;clear hz aa
 go_enter func149,ntmps149
 go_wp2;go_ret
 exact⟨rfl,rfl⟩
theorem Ih (z:Int) (w:World) :
  Calls prog 146 #[.int .i64 z] w fun e w'=>e=.returned (.bool (decide (z<0)))/\w'=w:=by
 go_enter func146,ntmps146
 go_wp2;go_ret
 exact⟨rfl,rfl⟩
theorem Jx (n:Int) (w:World) :
  Calls prog 99 #[.int .i64 n] w fun e w'=>e=.returned (.int .u32 (S.bit n))/\w'=w:=by
 go_enter func99,ntmps99
 by_cases h:n<0
 ·have e:=aA (S.rV h);go_wp2;go_ret
  rw[e.o];exact⟨rfl,rfl⟩
 ·have h':0<=n:=ω
  have e:=aA (MI n h');go_wp2;go_ret
  exact⟨aR e.o,rfl⟩
def G8 (x:Nat×Bool) (r:Nat):Nat:=if x.2=true then x.1 ||| r else x.1
def Ji (x:Nat×Bool):Value:=.agg #[.int .u32 (x.1:Int),.bool x.2]
def vD (x:Nat×Bool):List Value:=[.int .u32 (x.1:Int),.bool x.2]
theorem Im (x:Nat×Bool):(vD x).length=2:=rfl
theorem Um:(prog.info? 226).map (fun i=>(i.zero,i.size,i.bytes))=some (some (.agg #[.int .u32 0,.bool false]),2,8):=κ
theorem TD:(prog.info? 224).map (fun i=>(i.zero,i.size,i.bytes))=some (some (.slice none 0 0),1,24):=κ
theorem QB (x:Nat×Bool) (r:Nat) (hx:x.1<4294967296) (hr:r<4294967296) (w:World) :
  Calls prog 190 #[Ji x,.int .u32 (r:Int)] w fun e w'=>e=.returned (.int .u32 (G8 x r:Int))/\β w w':=by
 have aa:=aA (aZ.start 226 w #[.int .u32 (x.1:Int),.bool x.2]);have e:=aA (Fdq x.1 r hx hr);have HT:Hid (G8 x r=if x.2=true then x.1 ||| r else x.1):=aA rfl;generalize G8 x r=z at *;clear hx hr;unfold Ji;cases hb:x.2
 ·rw[hb]at HT aa;clear hb;generalize x.1=b at *
  go_enter func190,ntmps190
  go_wp2;go_ret
  exact⟨by rw[HT.o];rfl,aa.o.below⟩
 ·rw[hb]at HT aa;clear hb;generalize x.1=b at *
  go_enter func190,ntmps190
  go_wp2_with (rw[e.o])
  go_ret
  exact⟨by rw[HT.o];rfl,aa.o.below⟩
theorem SH:(match prog.underlying 176 with|some (.array _ _)|some (.struct _)=>true|_=>false)=true:=by rw[underlying176]
theorem GK:Maps.Keyed prog 176:=Maps.Keyed.of_law (deep_law (m:=2) ω κ κ SH)
theorem Ti (x:Au.It) (h:Gm.In x.1/\Gm.In x.2):∃l,keyOf prog 176 (lV x)=some l:=by
 have h1:(Lit.int .i64 x.1).wf=true:=D4 (by unfold Gm.In at h;omega);have h2:(Lit.int .i64 x.2).wf=true:=D4 (by unfold Gm.In at h;omega);have hk:prog.keyType 176=true:=κ
 have hc:prog.cellsOf 176=2:=κ
 have aa:prog.cellsOf 3=1:=κ
 unfold keyOf;rw[underlying176];have ab:(lV x).formed prog 176=true:=by simp[Value.formed,underlying176,hc]
 have hl:∃ls,prog.keyLits (prog.types.size+1) 176 (lV x).cells.toList=some ls:=by
  obtain⟨n,hn⟩:∃n,prog.types.size=n+1:=⟨prog.types.size-1,by have:0<prog.types.size:=CN κ;omega⟩
  rw[hn];simp[Program.keyLits,underlying176,underlying3,hc,aa,Value.cells,h1,h2]
 obtain⟨ls,ac⟩:=hl;simp only[hk,ab,ac];exact⟨_,rfl⟩
def qG:Mw.qO prog 176 Au.It where
 enc x:=lV x
 ok x:=Gm.In x.1/\Gm.In x.2
 key x h:=Ti x h
 inj x y _ _ h:=by
  injection h with h;simp at h;exact EA h.1 h.2
theorem TO:(match prog.underlying 127 with|some (.array _ _)|some (.struct _)=>true|_=>false)=true:=by rw[underlying127]
theorem Hg:Maps.Keyed prog 127:=Maps.Keyed.of_law (deep_law (m:=2) ω κ κ TO)
theorem Vd (x:Au.It) (h:Gm.In x.1/\Gm.In x.2):∃l,keyOf prog 127 (lV x)=some l:=by
 have h1:(Lit.int .i64 x.1).wf=true:=D4 (by unfold Gm.In at h;omega);have h2:(Lit.int .i64 x.2).wf=true:=D4 (by unfold Gm.In at h;omega);have hk:prog.keyType 127=true:=κ
 have hc:prog.cellsOf 127=2:=κ
 have aa:prog.cellsOf 3=1:=κ
 unfold keyOf;rw[underlying127];have ab:(lV x).formed prog 127=true:=by simp[Value.formed,underlying127,hc]
 have hl:∃ls,prog.keyLits (prog.types.size+1) 127 (lV x).cells.toList=some ls:=by
  obtain⟨n,hn⟩:∃n,prog.types.size=n+1:=⟨prog.types.size-1,by have:0<prog.types.size:=CN κ;omega⟩
  rw[hn];simp[Program.keyLits,underlying127,underlying3,hc,aa,Value.cells,h1,h2]
 obtain⟨ls,ac⟩:=hl;simp only[hk,ab,ac];exact⟨_,rfl⟩
def qS:Mw.qO prog 127 Au.It where
 enc x:=lV x
 ok x:=Gm.In x.1/\Gm.In x.2
 key x h:=Vd x h
 inj x y _ _ h:=by
  injection h with h;simp at h;exact EA h.1 h.2
theorem Ul:(prog.info? 176).map (fun i=>(i.zero,i.size,i.bytes))=some (some (.agg #[.int .i64 0,.int .i64 0]),2,16):=κ
theorem Sr {o:Oper} {a:Act} {Q:Exit->Act->World->Prop} {K:Act->World->Prop} (m x v:Operand) (t:TypeId) (ab:o.op=Op.mapUpdate t m x v) {mv xv vv:Value} {R:World->Prop} (h:∃w',(Instr.mapUpdate t mv xv vv).run P w=.ok () w'/\R w') (hm:a.eval m=mv) (hx:a.eval x=xv) (hv:a.eval v=vv) (hK:∀w',R w'->K (a.put o.dst undef) w'):o.wp P a w K Q:=by
 obtain⟨w',aa,hR⟩:=h;unfold Oper.wp;simp[execOp,ab,hm,hx,hv,aa,Result.andThen];exact hK w' hR
theorem qn {e:TypeId} {size:Nat} (h:w.ownsRow base e size v n xs) {o:Obj} (hg:w.heap[g]?=some o) (ho:∀cur,o ≠ .cells cur e (0,0)):v.ownBlock=none\/v.ownBlock≠some g:=by
 rcases h.2 with⟨rfl,_⟩|⟨g',cap,cur,rfl,_,aa,_⟩
 ·exact .inl rfl
 ·refine .inr fun e1=>?_;injection e1 with e1;have e1:g'=g:=e1;subst e1;rw[hg]at aa;injection aa with aa;exact ho _ aa
theorem aJ {e:TypeId} {size:Nat} (h:w.ownsRow base e size v n xs) (hg:w.grownBy w' v.ownBlock) {o:Obj} (hb:w.heap[g]?=some o) (ho:∀cur,o ≠ .cells cur e (0,0)):w'.heap[g]?=some o:=by
 refine(hg.block g (Ad.1 hb).1 fun e1=>?_).trans hb;rcases qn h hb ho with q|q
 ·rw[q]at e1;cases e1
 ·exact q e1.symm
structure gm (w w':World):Prop where
 size:w.heap.size<=w'.heap.size
 fp:∀(g:Nat) (cs:Array Value) (T:TypeId) (fr:Nat×Nat),w.heap[g]?=some (.cells cs T fr)->T≠61->T≠56->w'.heap[g]?=some (.cells cs T fr)
section
variable {w w' w2:World}
theorem gm.refl (w:World):gm w w:=⟨Af _,fun _ _ _ _ h _ _=>h⟩
theorem gm.trans (h:gm w w') (k:gm w' w2):gm w w2:=⟨Ah h.size k.size,fun g cs T fr h1 h2 h3=>k.fp g cs T fr (h.fp g cs T fr h1 h2 h3) h2 h3⟩
theorem gm.below (h:β w w'):gm w w':=⟨h.size,fun g _ _ _ h1 _ _=>(h.block g (Ad.1 h1).1).trans h1⟩
theorem gm.own (h:w.ownsRow base 61 2 v n xs) (hg:w.grownBy w' v.ownBlock):gm w w':=⟨hg.size,fun g cs T fr h1 h2 _=>aJ h hg h1 fun cur e=>by injection e with _ e _;exact h2 e⟩
theorem gm.map {es:Array MapEntry} {ck:Nat} (h:w.heap[M]?=some (.map es ck)) (hg:w.grownBy w' (some M)):gm w w':=⟨hg.size,fun g cs T fr h1 _ _=>(hg.block g (Ad.1 h1).1 (fun e=>by injection e with e;rw[e,h]at h1;cases h1)).trans h1⟩
theorem gm.set {pA:Nat} (h:w.heap[pA]?=some (.cells cs 56 fr)) (u:Value):gm w (w.setCell ⟨pA,i,none⟩ u):=⟨σ,fun g cs' T fr' h1 _ h3=>(AQ w ⟨pA,i,none⟩ u g (fun e=>by
 have e:g=pA:=e;rw[e,h]at h1;injection h1 with h1;injection h1 with _ h1 _;exact h3 h1.symm)).trans h1⟩
end
structure ko (w:World) (base pA pT M:Nat) (xs:List Au.It):Prop where
 v:∃v,w.heap[pA]?=some (.cells #[v] 56 (0,0))/\aK 61 2 fM w base v xs
 t:w.heap[pT]?=some (.cells #[.map (some M)] 217 (0,0))
 l:∃l,Mw.fw wu w M l/\∀x,Mw.fH l x=if x∈xs then some (.bool true) else none
 hA:base<=pA
 hT:base<=pT
 hM:base<=M
section
variable {w w':World} {base pA pT M:Nat} {xs:List Au.It}
theorem ko.below (h:ko w base pA pT M xs) (hb:β w w'):ko w' base pA pT M xs:=by
 obtain⟨⟨v,h1,h2⟩,h3,⟨l,h4,h5⟩,h6,h7,h8⟩:=h;exact⟨⟨v,aC hb h1,h2.below hb (Af _)⟩,aC hb h3,⟨l,h4.block (hb.block _ h4.lt),h5⟩,h6,h7,h8⟩
theorem ko.gf (h:ko w base pA pT M xs):base<=w.heap.size:=by
 have:=(Ad.1 h.t).1
 have:=h.hT
 omega
end
theorem aH {cur:Array Value} {T T':TypeId} (h:T≠T'):(Obj.cells cs T (0,0)) ≠ .cells cur T' (0,0):=fun e=>by
 injection e with _ e _;exact h e
theorem Hx (x:Int×Int) (w:World) (g:Nat) (hb:w.heap[g]?=some (.cells #[.int .i64 x.1,.int .i64 x.2] 61 (0,0))):∀j u,(fM x)[j]?=some u->w.cell? ⟨g,j,none⟩=some u:=fun j u hu=>by
 refine(AF w g j _ _ _ hb).trans ?_
 match j,hu with
 | 0,hu=>exact hu
 | 1,hu=>exact hu
 | j+2,hu=>simp[fM]at hu
theorem ko.put {w5 w6:World} {pA pT:Nat} {xs:List Au.It} {x:Au.It} {v5:Value} {l:List (Au.It×Value)} (hn:x ∉ xs) (h1:w.heap[pA]?=some (.cells #[v] 56 (0,0))) (h2:aK 61 2 fM w base v xs) (h3:w.heap[pT]?=some (.cells #[.map (some M)] 217 (0,0))) (h5:∀x,Mw.fH l x=if x∈xs then some (.bool true) else none) (hA:base<=pA) (hT:base<=pT) (hM:base<=M) (ho:aK 61 2 fM w5 base v5 (xs++[x])) (hg:w.grownBy w5 v.ownBlock) (hm:Mw.fw wu w6 M (l++[(x,.bool true)])) (ab:w5.grownBy w6 (some M)) (ac:Mw.fw wu w5 M l) :
  ko (w6.setCell ⟨pA,0,none⟩ v5) base pA pT M (Au.iM xs x)/\(Below base w w6->Below base w (w6.setCell ⟨pA,0,none⟩ v5)):=by
 have aa:M≠pA:=fun e=>by
  have:=aJ h2 hg h1 fun cur=>aH δ
  rw[<-e]at this;exact ac.fD this
 have ad:M≠pT:=fun e=>by
  have:=aJ h2 hg h3 fun cur=>aH δ
  rw[<-e]at this;exact ac.fD this
 have ae:pA≠pT:=fun e=>by
  rw[e,h3]at h1;injection h1 with h1;exact aH δ h1
 have a5:=aJ h2 hg h1 fun cur=>aH δ;have t5:=aJ h2 hg h3 fun cur=>aH δ;have a6:w6.heap[pA]?=some (.cells #[v] 56 (0,0)):=(ab.block pA (Ad.1 a5).1 (fun e=>by injection e with e;exact aa e.symm)).trans a5;have t6:w6.heap[pT]?=some (.cells #[.map (some M)] 217 (0,0)):=(ab.block pT (Ad.1 t5).1 (fun e=>by injection e with e;exact ad e.symm)).trans t5;obtain⟨es,ck,af,_⟩:=ac;have o6:aK 61 2 fM w6 base v5 (xs++[x]):=Bf ho ab (qn ho af fun cur e=>by cases e);have o7:aK 61 2 fM (w6.setCell ⟨pA,0,none⟩ v5) base v5 (xs++[x]):=Bf o6 (aF (AO _ _) 0 v5) (qn o6 a6 fun cur=>aH δ);have e:Au.iM xs x=xs++[x]:=by unfold Au.iM;rw[AJ hn]
 rw[e];refine⟨⟨⟨v5,Ba w6 pA 0 _ _ _ a6,o7⟩,(AQ w6 ⟨pA,0,none⟩ v5 pT (fun e=>ae e.symm)).trans t6,⟨_,hm.block (AQ w6 ⟨pA,0,none⟩ v5 M aa),fun y=>?_⟩,hA,hT,hM⟩,fun hb=>hb.setCell hA _⟩;have ag:Mw.fH l x=none:=by rw[h5,AJ hn]
 rw[Mw.kS ag,h5];by_cases e1:x=y
 ·subst e1;simp
 ·rw[AJ e1];by_cases e2:y∈xs
  ·rw[Az e2,Az (Dw _ e2)]
  ·rw[AJ e2,AJ];intro q;rcases Bs.1 q with q|q
   ·exact e2 q
   ·exact e1 (AW.1 q).symm
def cD (w:World) (gc:Nat):Option Nat:=match w.cell? ⟨gc,0,none⟩ with
 | some v=>v.ownBlock
 | none=>none
theorem Fz {gc:Nat} (h:w.cell? ⟨gc,0,none⟩=some v):cD w gc=v.ownBlock:=by unfold cD;rw[h]
structure fE (gc M D:Nat) (w w':World):Prop where
 size:w.heap.size<=w'.heap.size
 fp:∀g,g<w.heap.size->g≠gc->g≠M->g≠D->cD w gc≠some g->w'.heap[g]?=w.heap[g]?
 own:cD w' gc=cD w gc \/ ∃k,cD w' gc=some k/\w.heap.size<=k
section
variable {gc M D:Nat} {w w' w2:World}
theorem fE.refl (w:World):fE gc M D w w:=⟨Af _,fun _ _ _ _ _ _=>rfl,.inl rfl⟩
theorem fE.trans (h:fE gc M D w w') (k:fE gc M D w' w2):fE gc M D w w2:=by
 refine⟨Ah h.size k.size,fun g h1 h2 h3 h4 h5=>(k.fp g (Aj h1 h.size) h2 h3 h4 fun e=>?_).trans (h.fp g h1 h2 h3 h4 h5),?_⟩
 ·rcases h.own with q|⟨j,q,hj⟩
  ·rw[q]at e;exact h5 e
  ·rw[q]at e;injection e with e;omega
 ·rcases k.own with q|⟨j,q,hj⟩
  ·rw[q];exact h.own
  ·exact .inr ⟨j,q,Ah h.size hj⟩
theorem fE.below (h:β w w') (hg:gc<w.heap.size):fE gc M D w w' :=
 ⟨h.size,fun g h1 _ _ _ _=>h.block g h1,.inl (by unfold cD;rw[h.cell (p:=⟨gc,0,none⟩) hg])⟩
theorem fE.off (h:fE gc M D w w') (hg:g<w.heap.size) (hn:cD w gc≠some g):cD w' gc≠some g:=by
 rcases h.own with q|⟨j,q,hj⟩
 ·rw[q];exact hn
 ·rw[q];intro e;injection e with e;omega
theorem fE.row (h:fE gc M D w w') {t:TypeId} {f:Nat×Nat} (hb:w.heap[g]?=some (.cells cs t f)) (h1:g≠gc) (h2:g≠M) (h3:g≠D) (h4:cD w gc≠some g):w'.heap[g]?=some (.cells cs t f):=(h.fp g (Ad.1 hb).1 h1 h2 h3 h4).trans hb
theorem fE.map (hg:w.grownBy w' (some M)) (h1:gc<w.heap.size) (h2:gc≠M):fE gc M D w w' :=
 ⟨hg.size,fun g k1 _ k3 _ _=>hg.block g k1 (fun e=>by injection e with e;exact k3 e),.inl (by
  unfold cD;rw[show w'.cell? ⟨gc,0,none⟩=w.cell? ⟨gc,0,none⟩ from Ck (hg.block gc h1 (fun e=>by injection e with e;exact h2 e))])⟩
theorem fE.I5 (hg:w.grownBy w' (some D)) (h1:gc<w.heap.size) (h2:gc≠D):fE gc M D w w' :=
 ⟨hg.size,fun g k1 _ _ k4 _=>hg.block g k1 (fun e=>by injection e with e;exact k4 e),.inl (by
  unfold cD;rw[show w'.cell? ⟨gc,0,none⟩=w.cell? ⟨gc,0,none⟩ from Ck (hg.block gc h1 (fun e=>by injection e with e;exact h2 e))])⟩
end
def qH (g0 g1 g2 g3 tv:Value) (T M D:Nat):Array Value:=#[g0,g1,g2,g3,tv,.map (some T),.map (some M),.map (some D)]
structure iD (w:World) (base R gc T M D:Nat) (g0 g1 g2 g3 tv:Value) (tl:List ((Int×Int)×Value)) (MM DD:Lk.MP) (st:List (Int×Int)):Prop where
 r:w.heap[R]?=some (.cells (qH g0 g1 g2 g3 tv T M D) 174 (0,0))
 v:∃v,w.heap[gc]?=some (.cells #[v] 227 (0,0))/\aK 176 2 fM w base v st
 t:Mw.fw qG w T tl
 m:Mw.jJ qG w M (Lk.gY MM)
 d:Mw.jJ qS w D (Lk.gY DD)
 hR:base<=R
 hg:base<=gc
 hT:base<=T
 hM:base<=M
 hD:base<=D
 ne:T≠M/\T≠D/\M≠D
section
variable {w w':World} {base R gc T M D:Nat} {g0 g1 g2 g3 tv:Value} {tl:List ((Int×Int)×Value)} {MM DD:Lk.MP} {st:List (Int×Int)}
theorem iD.below (h:iD w base R gc T M D g0 g1 g2 g3 tv tl MM DD st) (hb:β w w'):iD w' base R gc T M D g0 g1 g2 g3 tv tl MM DD st:=by
 obtain⟨h1,⟨v,h2,h3⟩,h4,h5,h6,a1,a2,a3,a4,a5,h7⟩:=h;exact⟨aC hb h1,⟨v,aC hb h2,h3.below hb (Af _)⟩,h4.block (hb.block _ h4.lt),h5.block (hb.block _ h5.lt),h6.block (hb.block _ h6.lt),a1,a2,a3,a4,a5,h7⟩
theorem iD.own (h:iD w base R gc T M D g0 g1 g2 g3 tv tl MM DD st) (k:Nat) (hk:cD w gc=some k):k<w.heap.size:=by
 obtain⟨v,h2,h3⟩:=h.v;rw[Fz (AF w gc 0 _ _ _ h2)]at hk;exact(Br h3 k hk).2
theorem iD.gf (h:iD w base R gc T M D g0 g1 g2 g3 tv tl MM DD st):base<=w.heap.size:=by
 have:=h.m.lt
 have:=h.hM
 omega
theorem iD.nD (h:iD w base R gc T M D g0 g1 g2 g3 tv tl MM DD st):gc<w.heap.size:=by
 obtain⟨v,h2,_⟩:=h.v;exact(Ad.1 h2).1
theorem iD.Gc (h:iD w base R gc T M D g0 g1 g2 g3 tv tl MM DD st):gc≠M/\gc≠D/\gc≠T/\R≠M/\R≠D/\R≠gc:=by
 obtain⟨v,h2,_⟩:=h.v;refine⟨fun e=>?_,fun e=>?_,fun e=>?_,fun e=>?_,fun e=>?_,fun e=>?_⟩
 ·rw[e]at h2;exact h.m.is.fD h2
 ·rw[e]at h2;exact h.d.is.fD h2
 ·rw[e]at h2;exact h.t.fD h2
 ·have:=h.r;rw[e]at this;exact h.m.is.fD this
 ·have:=h.r;rw[e]at this;exact h.d.is.fD this
 ·have:=h.r
  rw[e,h2]at this;injection this with this;exact aH δ this
theorem iD.I6 (h:iD w base R gc T M D g0 g1 g2 g3 tv tl MM DD st) {MM':Lk.MP} (hg:w.grownBy w' (some M)) (hm:Mw.jJ qG w' M (Lk.gY MM')):iD w' base R gc T M D g0 g1 g2 g3 tv tl MM' DD st:=by
 obtain⟨n1,n2,n3,n4,n5,n6⟩:=h.Gc;obtain⟨h1,⟨v,h2,h3⟩,h4,h5,h6,a1,a2,a3,a4,a5,h7⟩:=h;obtain⟨es,ck,aa,_⟩:=h5
 exact⟨(hg.block R (Ad.1 h1).1 (fun e=>by injection e with e;exact n4 e)).trans h1,
  ⟨v,(hg.block gc (Ad.1 h2).1 (fun e=>by injection e with e;exact n1 e)).trans h2,Bf h3 hg (qn h3 aa fun cur e=>by cases e)⟩,
  h4.block (hg.block T h4.lt (fun e=>by injection e with e;exact h7.1 e)),hm,h6.block (hg.block D h6.lt (fun e=>by injection e with e;exact h7.2.2 e.symm)),a1,a2,a3,a4,a5,h7⟩
theorem iD.IX (h:iD w base R gc T M D g0 g1 g2 g3 tv tl MM DD st) {DD':Lk.MP} (hg:w.grownBy w' (some D)) (hm:Mw.jJ qS w' D (Lk.gY DD')):iD w' base R gc T M D g0 g1 g2 g3 tv tl MM DD' st:=by
 obtain⟨n1,n2,n3,n4,n5,n6⟩:=h.Gc;obtain⟨h1,⟨v,h2,h3⟩,h4,h5,h6,a1,a2,a3,a4,a5,h7⟩:=h;obtain⟨es,ck,aa,_⟩:=h6
 exact⟨(hg.block R (Ad.1 h1).1 (fun e=>by injection e with e;exact n5 e)).trans h1,
  ⟨v,(hg.block gc (Ad.1 h2).1 (fun e=>by injection e with e;exact n2 e)).trans h2,Bf h3 hg (qn h3 aa fun cur e=>by cases e)⟩,
  h4.block (hg.block T h4.lt (fun e=>by injection e with e;exact h7.2.1 e)),h5.block (hg.block M h5.lt (fun e=>by injection e with e;exact h7.2.2 e)),hm,a1,a2,a3,a4,a5,h7⟩
end
section
variable {w w5:World} {base R gc T M D:Nat} {g0 g1 g2 g3 tv:Value} {tl:List ((Int×Int)×Value)} {MM DD:Lk.MP} {st st':List (Int×Int)} {v v5:Value}
theorem iD.push (h:iD w base R gc T M D g0 g1 g2 g3 tv tl MM DD st) (hv:w.heap[gc]?=some (.cells #[v] 227 (0,0))) (ho:aK 176 2 fM w base v st) (ae:aK 176 2 fM w5 base v5 st') (hg:w.grownBy w5 v.ownBlock):iD (w5.setCell ⟨gc,0,none⟩ v5) base R gc T M D g0 g1 g2 g3 tv tl MM DD st':=by
 obtain⟨n1,n2,n3,n4,n5,n6⟩:=h.Gc;obtain⟨h1,_,h4,h5,h6,a1,a2,a3,a4,a5,h7⟩:=h;have r5:=aJ ho hg h1 fun cur=>aH δ;have v5':=aJ ho hg hv fun cur=>aH δ;obtain⟨es,ck,af,ag⟩:=h4;have t5:=aJ ho hg af fun cur e=>by cases e
 obtain⟨es2,ck2,aa,ab⟩:=h5;have m5:=aJ ho hg aa fun cur e=>by cases e
 obtain⟨es3,ck3,ac,ad⟩:=h6;have d5:=aJ ho hg ac fun cur e=>by cases e
 have o7:aK 176 2 fM (w5.setCell ⟨gc,0,none⟩ v5) base v5 st':=Bf ae (aF (AO _ _) 0 v5) (qn ae v5' fun cur=>aH δ)
 exact⟨(AQ w5 ⟨gc,0,none⟩ v5 R n6).trans r5,⟨v5,Ba w5 gc 0 _ _ _ v5',o7⟩,
  ⟨es,ck,(AQ w5 ⟨gc,0,none⟩ v5 T (fun e=>n3 e.symm)).trans t5,ag⟩,⟨es2,ck2,(AQ w5 ⟨gc,0,none⟩ v5 M (fun e=>n1 e.symm)).trans m5,ab⟩,⟨es3,ck3,(AQ w5 ⟨gc,0,none⟩ v5 D (fun e=>n2 e.symm)).trans d5,ad⟩,a1,a2,a3,a4,a5,h7⟩
theorem fE.push {wA:World} (h:fE gc M D w wA) (hv:wA.cell? ⟨gc,0,none⟩=some v) (hg:wA.grownBy w5 v.ownBlock) (aa:v5.ownBlock=v.ownBlock\/v5.ownBlock=some wA.heap.size) {ty:TypeId} (hc:w5.heap[gc]?=some (.cells #[u] ty (0,0))):fE gc M D w (w5.setCell ⟨gc,0,none⟩ v5):=by
 have e:=Fz hv;have hs:=hg.size;have hn:cD (w5.setCell ⟨gc,0,none⟩ v5) gc=v5.ownBlock:=Fz (AF _ gc 0 _ _ _ (Ba w5 gc 0 _ _ _ hc));refine⟨by have:=h.size;simp;omega,fun g k1 k2 k3 k4 k5=>(AQ w5 ⟨gc,0,none⟩ v5 g k2).trans ((hg.block g (Aj k1 h.size) (fun q=>?_)).trans (h.fp g k1 k2 k3 k4 k5)),?_⟩
 ·exact h.off k1 k5 (by rw[e,<-q])
 ·rw[hn];rcases aa with q|q
  ·rw[q,<-e];exact h.own
  ·exact .inr ⟨_,q,h.size⟩
end
theorem Rm (x:Int×Int) (w:World) (g:Nat) (hb:w.heap[g]?=some (.cells #[.int .i64 x.1,.int .i64 x.2] 176 (0,0))):∀j u,(fM x)[j]?=some u->w.cell? ⟨g,j,none⟩=some u:=fun j u hu=>by
 refine(AF w g j _ _ _ hb).trans ?_
 match j,hu with
 | 0,hu=>exact hu
 | 1,hu=>exact hu
 | j+2,hu=>simp[fM]at hu
theorem L4 (w:World) (base pA pT M:Nat) (xs:List Au.It) (x:Au.It) (h:ko w base pA pT M xs) (hx:Gm.In x.1/\Gm.In x.2) (aa:xs.length<=100000) :
  Calls prog 138 #[lV x,.pointer (some ⟨pT,0,none⟩),.pointer (some ⟨pA,0,none⟩)] w fun e w'=>e=.returned (.tuple #[])/\ko w' base pA pT M (Au.iM xs x)/\Below base w w'/\gm w w':=by
 obtain⟨wb,u⟩:=χ (w.alloc (.cells #[.int .i64 x.1,.int .i64 x.2] 61))
 have j:Hid (β w wb):=aA (by rw[u];exact(AB _ _).alloc (Af _) _);have n:wb.heap[w.heap.size]?=some (.cells #[.int .i64 x.1,.int .i64 x.2] 61 (0,0)):=by rw[u];exact AI w _
 have m:=aA n;have a3:w.heap.size<wb.heap.size:=(Ad.1 n).1;have HH:=aA (h.below j.o);have B:=aA h.gf;have a4:=aA hx;obtain⟨⟨v,h1,h2⟩,h3,⟨l,h4,h5⟩,hA,hT,hM⟩:=h;have a9:=aA (fun k (e:v.ownBlock=some k)=>(Br h2 k e).2);have ap:=h4.lt;have h1:=aC j.o h1;have h2:=h2.below j.o (Af _);have h3:=aC j.o h3;have h4:=h4.block (j.o.block _ h4.lt);have ba:=aA (show M≠w.heap.size by omega);have H1:=aA h1;have H2:=aA h2;have H3:=aA h3;have H5:=aA h5;have H4:=aA h4;have cT:=aQ h3;have x0:=aQ n;have x1:=aU n;have hE:=h5 x;have ah:wu.enc x=.agg #[.int .i64 x.1,.int .i64 x.2]:=rfl;have lk:=Mw.gP (E:=wu) h4 Kt (t:=217) underlying217 (z:=.bool false) κ (x:=x) hx false;rw[hE,ah]at lk;by_cases hn:x∈xs
 ·rw[Az hn]at lk;have e:Au.iM xs x=xs:=by unfold Au.iM;rw[Az hn]
  simp at lk;clear h1 h2 h3 h4 h5 hE hx n hA hT hM hn ap
  go_enter func138,ntmps138
  go_upto_region 1 with fail
  rw[<-u];clear u;go_wp2;go_end0
  exact⟨rfl,by rw[e];exact HH.o,j.o.mono B.o,.below j.o⟩
 ·rw[AJ hn]at lk;simp at lk;have HN:=aA hn;obtain⟨A,c,rfl,bj,bk,_⟩:=aK.form h2 aG;have aq:=aA (fun(y:World) (hy:Mw.fw wu y M l)=>Mw.oS (x:=x) hy Kt underlying217 a4.o (.bool true));have ab:Mw.fH l x=none:=by rw[hE,AJ hn]
  rw[Mw.jr ab]at aq;have cA:=aQ h1;have ai:=aA aa
  have aj:pA≠w.heap.size:=fun e=>by
   rw[e]at h1;rw[n]at h1;injection h1 with h1;exact aH δ h1
  have HT:=aA hT;have HA:=aA hA;have HM:=aA hM;clear h1 h2 h3 h4 h5 hE hx n hA hT hM hn ab aa ap
  go_enter func138,ntmps138
  go_upto_region 1 with fail
  rw[<-u];clear u;go_upto_region 2 with fail
  have qT:∀y:iR [pT,w.heap.size] wb,y.1.cell? ⟨pT,0,none⟩=some (.map (some M)):=fun y=>y.row σ H3.o rfl;have q0:∀y:iR [pT,w.heap.size] wb,y.1.cell? ⟨w.heap.size,0,none⟩=some (.int .i64 x.1):=fun y=>y.row σ m.o rfl;have q1:∀y:iR [pT,w.heap.size] wb,y.1.cell? ⟨w.heap.size,1,none⟩=some (.int .i64 x.2):=fun y=>y.row σ m.o rfl;clear x0 x1 cT lk;have S0:∃y:iR [pT,w.heap.size] wb,wb.drew=y.1:=⟨⟨wb.drew,fun _ _=>rfl⟩,rfl⟩
  refine CalmN.fk (fun x=>∃y:iR [pT,w.heap.size] wb,x=y.1) (.two [0,1,3] 2 (.one [] 4 (.one [] 5 (.one [] 6 (.one [] 7 (.fin []))))) 4 (.one [] 2 (.one [] 5 (.one [] 6 (.one [] 7 (.fin [])))))) S0 ?_;rw[CalmN.fS];simp only[CalmN.fo,Aq,Ai,Am];repeat (go_big_quiet_step (fail))
  have ar:=aA S0;have D:Hid (β w wb.drew):=aA (aB j.o 1);have H1:Hid (wb.drew.heap[pA]?=some (.cells #[.slice A xs.length c] 56 (0,0))):=H1;have H2:Hid (aK 61 2 fM wb.drew base (.slice A xs.length c) xs):=H2;have H3:Hid (wb.drew.heap[pT]?=some (.cells #[.map (some M)] 217 (0,0))):=H3;have H4:Hid (Mw.fw wu wb.drew M l):=aA (H4.o.block rfl);have m:Hid (wb.drew.heap[w.heap.size]?=some (.cells #[.int .i64 x.1,.int .i64 x.2] 61 (0,0))):=m;have cA:wb.drew.cell? ⟨pA,0,none⟩=some (.slice A xs.length c):=cA
  have ag:Hid (∀y:World,y.heap[pT]?=wb.drew.heap[pT]?->y.heap[w.heap.size]?=wb.drew.heap[w.heap.size]?->∃z:iR [pT,w.heap.size] wb,y=z.1):=aA (fun y e1 e2=>⟨⟨y,fun g hg=>by
   rcases BB.1 hg with rfl|hg
   ·exact e1
   ·rw[AW.1 hg];exact e2⟩,rfl⟩)
  have ak:w.heap.size<wb.drew.heap.size:=a3;clear qT q0 q1;generalize wb.drew=wd at *;have i:Hid (Below wd.heap.size wd (wd.alloc (.cells #[.int .i64 x.1,.int .i64 x.2] 61))):=aA ((AB _ _).alloc (Af _) _);have bb:=(Ad.1 H3.o).1;have bl:=(Ad.1 H1.o).1;have cA2:=aQ (aC i.o H1.o);have C:=aA (ag.o (wd.alloc (.cells #[.int .i64 x.1,.int .i64 x.2] 61)) (i.o.block _ bb) (i.o.block _ ak));refine Ap ⟨?_,?_⟩
  case' refine_1 =>
   simp only[CalmN.fS,CalmN.fu,CalmN.fo,Aq,Ai,Am];intro KK b;rw[Az ε];go_wp2_with fail
   refine b _ _ ar.o _ ι ar.o ?_;clear b;refine Ap ?_;intro KK b;rw[Az ε];go_wp2_with fail
   refine b _ _ C.o _ ι C.o ?_;clear b;refine Ap ?_
  case' refine_2 =>
   simp only[CalmN.fS,CalmN.fu,CalmN.fo,Aq,Ai,Am];intro KK b;rw[Az ε];go_wp2_with fail
   refine b _ _ C.o _ ι C.o ?_;clear b;refine Ap ?_;intro KK b;rw[Az ε];go_wp2_with fail
   refine b _ _ C.o _ ι C.o ?_;clear b;refine Ap ?_
  all_goals
   intro KK b;rw[Az ε];have o1:=H2.o.alloc (.cells #[.int .i64 x.1,.int .i64 x.2] 61);have p:=aA o1;have b1:=aC i.o H1.o;have b3:=aC i.o H3.o;have bX:=aC i.o m.o;obtain⟨es,ck,au,av⟩:=H4.o;have bM:=aC i.o au;have ac:=AI wd (.cells #[.int .i64 x.1,.int .i64 x.2] 61);clear o1 cA cA2;refine J2 (f:=fM) (.tmp 10) (.tmp 12) _ rfl underlying56 _ 16 yH δ δ δ aG tA base _ xs rfl p.o _ _ x rfl (Hx x _ _ ac) (by have:=ai.o;omega) (Ah B.o (by have:=D.o.size;simp;omega)) ?_;intro v5 w5 al r;obtain⟨A5,c5,rfl,_,_,_⟩:=aK.form al aG;have m5:=aJ p.o r bM fun cur e=>by cases e
   have t5:=aJ p.o r b3 fun cur=>aH δ;have a5:=aJ p.o r b1 fun cur=>aH δ;have x5:w5.heap[w.heap.size]?=some (.cells #[.int .i64 x.1,.int .i64 x.2] 61 (0,0)):=(r.block _ (Ad.1 bX).1 (fun e=>by have:=a9.o _ e.symm;omega)).trans bX;have F:Hid (Mw.fw wu w5 M l):=aA ⟨es,ck,m5,av⟩;have aw:=aA (ag.o w5 (t5.trans H3.o.symm) (x5.trans m.o.symm));have ax:Hid (Below base w w5):=aA (((D.o.mono B.o).trans (i.o.mono (Ah B.o D.o.size))).grown r (Ah B.o (by have:=D.o.size;simp;omega)) (fun k e=>(Br p.o k e).1));have am:=aA t5;have ao:=aA a5;have ay:=aA x5;have bc:=aA al;have az:=aA r;have bd:=aA b1;have bf:=aA b3;clear m5 t5 a5 x5 al r b1 b3 bX bM au av ac;refine b _ _ aw.o _ ι aw.o ?_;clear b;refine Ap ?_;intro KK b;rw[Az ε];refine Sr _ _ _ _ rfl (aq.o w5 F.o) rfl rfl rfl ?_;rintro w6 ⟨a0,s⟩;have ad:M≠pT:=fun e=>by have:=am.o;rw[<-e]at this;exact F.o.fD this
   have ae:M≠pA:=fun e=>by have:=ao.o;rw[<-e]at this;exact F.o.fD this
   have t6:=(s.block pT (Ad.1 am.o).1 (fun e=>by injection e with e;exact ad e.symm)).trans am.o;have a6:=(s.block pA (Ad.1 ao.o).1 (fun e=>by injection e with e;exact ae e.symm)).trans ao.o;have x6:=(s.block w.heap.size (Ad.1 ay.o).1 (fun e=>by injection e with e;exact ba.o e.symm)).trans ay.o;have a1:=aA (ag.o w6 (t6.trans H3.o.symm) (x6.trans m.o.symm));have bg:Hid (Below base w w6):=aA (aM ax.o s HM.o (Ah B.o (by have:=ax.o.size;omega)));have HP:=aA (ko.put HN.o bd.o p.o bf.o H5.o HA.o HT.o HM.o bc.o az.o a0 s F.o).1;have cA6:=aQ a6;have fA6:=AM w6 pA 0 _ _ a6;have lA6:=(Ad.1 a6).1;have a2:=aA (ag.o (w6.setCell ⟨pA,0,none⟩ (.slice A5 (xs++[x]).length c5)) ((HP.o.t).trans H3.o.symm) ((AQ w6 ⟨pA,0,none⟩ _ w.heap.size (fun e=>aj e.symm)).trans (x6.trans m.o.symm)));have bh:Hid (Below base w (w6.setCell ⟨pA,0,none⟩ (.slice A5 (xs++[x]).length c5))):=aA (bg.o.setCell HA.o _);obtain⟨es5,ck5,af,_⟩:=F.o;have bi:Hid (gm w (w6.setCell ⟨pA,0,none⟩ (.slice A5 (xs++[x]).length c5))):=aA (((((gm.below D.o).trans (.below i.o)).trans (.own p.o az.o)).trans (.map af s)).trans (.set a6 _));clear a0 s ad ae t6 a6 x6 af;generalize (xs++[x]).length=ln at *;refine b _ _ a1.o _ ι a1.o ?_;clear b;refine Ap ?_;intro KK b;rw[Az ε];go_wp2_with fail
   refine b _ _ a2.o _ ι a2.o ?_;clear b cA6 fA6 lA6;refine Ap ?_;go_wp2;go_end0
   exact⟨rfl,HP.o,bh.o,bi.o⟩
namespace Au
def jg (G:Gm.Gr) (left:Int) (i:Nat):List It:=((List.range i).filter fun k=>decide ((G.rs.getD k ⟨0,[],0⟩).l=left)).map fun k:Nat=>((k:Int),(0:Int))
theorem pk {left:Int} (hi:i<G.rs.length) (h:(G.rs[i]).l=left):jg G left (i+1)=jg G left i++[((i:Int),0)]:=by
 unfold jg;rw[CM,CH,Bi,CA,Az (by rw[Bj,Aw,AH hi,Bu];exact h)];rfl
theorem rT {left:Int} (hi:i<G.rs.length) (h:(G.rs[i]).l≠left):jg G left (i+1)=jg G left i:=by
 unfold jg;rw[CM,CH,Bi,CA,AJ (by rw[Bj,Aw,AH hi,Bu];exact h)];simp
theorem pj (G:Gm.Gr) (left:Int) (i:Nat):(jg G left i).length<=i:=by
 unfold jg;rw[Bh]
 have:=CD (fun k=>decide ((G.rs.getD k ⟨0,[],0⟩).l=left)) (List.range i)
 rw[DV]at this;exact this
theorem pf {x:It} (h:nx G x=some s) (h0:s<0):kq G x=jg G (-1-s) G.rs.length:=by
 unfold kq jg;rw[h];simp only[Az h0]
theorem mc {x:It} (h:∀s,nx G x=some s->0<=s):kq G x=[]:=by
 unfold kq;cases hn:nx G x with
 | none=>rfl
 | some s =>
  have:=h s hn
  simp only;rw[AJ ω]
theorem mx:∀ {zs xs:List It},(gi xs zs).length<=xs.length+zs.length
 | [],_=>Af _
 | z::zs,xs=>by
  have h:=mx (zs:=zs) (xs:=iM xs z)
  have h1:(iM xs z).length<=xs.length+1:=by
   unfold iM;split
   ·omega
   ·simp
  have e:gi xs (z::zs)=gi (iM xs z) zs:=rfl;rw[e,Bz];omega
end Au
theorem PG (v:Value) (G:Gm.Gr) (B:Nat) (left:Int) (w:World) (base pA pT M:Nat) (xs:List Au.It) (hg:aT w B v G) (hB:B<=base) (hr:G.rs.length<=1000) (h:ko w base pA pT M xs) (aa:xs.length<=50000) :
  Calls prog 141 #[v,.int .i64 left,.func (Fn.func 138) #[] #[.pointer (some ⟨pT,0,none⟩),.pointer (some ⟨pA,0,none⟩)]] w fun e w'=>e=.returned (.tuple #[])/\ko w' base pA pT M (Au.gi xs (Au.jg G left G.rs.length))/\Below base w w'/\gm w w':=by
 obtain⟨AT,cT,AN,cN,AR,cR,rfl,_,_,⟨a5,a6⟩,_,_,hR⟩:=hg;obtain⟨wb,ab⟩:=χ (w.alloc (.cells #[.slice AT G.ts.length cT,.slice AN G.ns.length cN,.slice AR G.rs.length cR,.int .i64 G.st] 26))
 have ad:Hid (β w wb):=aA (by rw[ab];exact(AB _ _).alloc (Af _) _);have ag:wb.heap[w.heap.size]?=some (.cells #[.slice AT G.ts.length cT,.slice AN G.ns.length cN,.slice AR G.rs.length cR,.int .i64 G.st] 26 (0,0)):=by rw[ab];exact AI w _
 have HR:=aA hR;have ah:=aA h.gf;have HB:=aA hB;have HH:=aA (h.below ad.o);have x2:=bB ag;have av:Hid (Below base w wb):=aA (ad.o.mono ah.o);have aw:Hid (gm w wb):=aA (.below ad.o);have ai:(G.rs.length:Int)<=1000:=ω
 have HL:=aA aa;clear hR hB h ag aa
 go_enter func141,ntmps141
 go_upto_region 1 with fail
 rw[<-ab];clear ab;go_wp2;go_loopw [11] (fun vi wr=>∃i:Nat,i<=G.rs.length/\vi=.int .i64 i/\Hid (ko wr base pA pT M (Au.gi xs (Au.jg G left i)))/\Hid (Below base w wr)/\Hid (gm w wr)) (fun vi _=>G.rs.length-(intOf vi).toNat)
 case atStart=>exact⟨0,Bb _,rfl,HH,av,aw⟩
 case round =>
  obtain⟨i,hi,rfl,HA,HW,HK⟩:=hrel;by_cases b:i<G.rs.length
  ·obtain⟨g,o,rfl,ax,hc⟩:=HR.o ω;obtain⟨k0,⟨A',c',k1,ay,_,az⟩,k2⟩:=hc i b;have ae:g<base:=Aj ax HB.o;have k0:=(HW.o.cell (p:=⟨g,o+i*3,none⟩) ae).trans k0;have k1:=(HW.o.cell (p:=⟨g,o+i*3+1,none⟩) ae).trans k1;have k2:=(HW.o.cell (p:=⟨g,o+i*3+2,none⟩) ae).trans k2;have aj:=aA (show(Au.gi xs (Au.jg G left i)).length<=100000 by have:=Au.mx (xs:=xs) (zs:=Au.jg G left i);have:=Au.pj G left i;have:=HL.o;omega);obtain⟨wi,ac⟩:=χ (wr.alloc (.cells #[.int .i64 (G.rs[i]).l,.slice A' (G.rs[i]).r.length c',.int .i64 (G.rs[i]).p] 74))
   have af:Hid (β wr wi):=aA (by rw[ac];exact(AB _ _).alloc (Af _) _);have ak:wi.heap[wr.heap.size]?=some (.cells #[.int .i64 (G.rs[i]).l,.slice A' (G.rs[i]).r.length c',.int .i64 (G.rs[i]).p] 74 (0,0)):=by rw[ac];exact AI wr _
   have y0:=aQ ak;have al:=aA (HW.o.trans (af.o.mono (Ah ah.o HK.o.size)));have am:=aA (HK.o.trans (.below af.o));have ao:=aA (HA.o.below af.o);have ap:=aA (L4 wi base pA pT M _ ((i:Int),0) ao.o (by unfold Gm.In;simp only;omega) aj.o);have hY:=Au.pk (left:=left) b;have hN:=Au.rT (left:=left) b;clear hc az ay ak aj;generalize (G.rs[i]).l=lf at *;generalize (G.rs[i]).r.length=rn at *;generalize (G.rs[i]).p=rp at *;go_upto_region 4 with fail
   rw[<-ac];clear ac k0 k1 k2;by_cases he:lf=left
   ·have a0:=aA (hY he);have hq:(lf==left)=true:=by rw[BP];exact he
    clear hY hN he;go_wp2_with fail
    refine ap.o.mono ?_;rintro _ w2 ⟨rfl,aq,ar,au⟩;have a1:=aA aq;have a2:=aA (al.o.trans ar);have a3:=aA (am.o.trans au);clear aq ar au y0;go_wp2;go_roundw
    case rel=>exact⟨i+1,b,ν,aA (by rw[a0.o,Au.mw];exact a1.o),a2,a3⟩
    case measure=>simp[intOf];omega
   ·have a4:=aA (hN he);have hq:(lf==left)=false:=by rw[Bc];exact he
    clear hY hN he ap;go_wp2;go_roundw
    case rel=>exact⟨i+1,b,ν,aA (by rw[a4.o];exact ao.o),al,am⟩
    case measure=>simp[intOf];omega
  ·obtain rfl:i=G.rs.length:=ω
   go_wp2;go_end0
   exact⟨rfl,HA.o,HW.o,HK.o⟩
end Go.Proofs.YtjjbaehamplnaaaGreat
namespace Go.Proofs
open Go.Shelf
def Tryz.rG:Go.Shelf.Ren:=⟨fun|6=>143|15=>184|14=>183|28=>210|29=>211|20=>202|21=>203|22=>204|23=>205|24=>206|25=>207|26=>208|27=>209|46=>221|47=>222|48=>223|49=>224|50=>225|57=>233|n=>n,fun|22=>56|24=>61|25=>221|3=>3|39=>178|0=>0|53=>104|55=>232|4=>4|46=>269|45=>268|50=>54|5=>5|9=>9|66=>279|70=>283|76=>286|77=>287|n=>n,fun|n=>n⟩
theorem Tryz.vz:Go.Proofs.SlLaysF0.n6 prog Tryz.rG:={
 mixed:=κ
 f6:=⟨Tryz.f143.name,δ,Tryz.func143.trans (congrArg some κ)⟩
 f14:=⟨Tryz.f183.name,δ,Tryz.func183.trans (congrArg some κ)⟩
 f15:=Tryz.func184.trans (congrArg some κ)
 f20:=⟨Tryz.f202.name,δ,Tryz.func202.trans (congrArg some κ)⟩
 f21:=⟨Tryz.f203.name,δ,Tryz.func203.trans (congrArg some κ)⟩
 f22:=⟨Tryz.f204.name,δ,Tryz.func204.trans (congrArg some κ)⟩
 f23:=⟨Tryz.f205.name,δ,Tryz.func205.trans (congrArg some κ)⟩
 f24:=⟨Tryz.f206.name,δ,Tryz.func206.trans (congrArg some κ)⟩
 f25:=⟨Tryz.f207.name,δ,Tryz.func207.trans (congrArg some κ)⟩
 f26:=⟨Tryz.f208.name,δ,Tryz.func208.trans (congrArg some κ)⟩
 f27:=⟨Tryz.f209.name,δ,Tryz.func209.trans (congrArg some κ)⟩
 f28:=Tryz.func210.trans (congrArg some κ)
 f29:=Tryz.func211.trans (congrArg some κ)
 f46:=⟨Tryz.f221.name,δ,Tryz.func221.trans (congrArg some κ)⟩
 f47:=Tryz.func222.trans (congrArg some κ)
 f48:=Tryz.func223.trans (congrArg some κ)
 f49:=⟨Tryz.f224.name,δ,Tryz.func224.trans (congrArg some κ)⟩
 f50:=⟨Tryz.f225.name,δ,Tryz.func225.trans (congrArg some κ)⟩
 f57:=⟨Tryz.f233.name,δ,Tryz.func233.trans (congrArg some κ)⟩
 t0:=underlying0
 a0:=isAgg0
 z0:=sizeOf0
 v0:=zeroValue0
 t3:=underlying3
 a3:=isAgg3
 z3:=sizeOf3
 v3:=zeroValue3
 t4:=underlying4
 a4:=isAgg4
 z4:=sizeOf4
 v4:=zeroValue4
 t5:=underlying5
 a5:=isAgg5
 z5:=sizeOf5
 v5:=zeroValue5
 t9:=underlying9
 a9:=isAgg9
 z9:=sizeOf9
 v9:=zeroValue9
 t22:=underlying56
 a22:=isAgg56
 z22:=sizeOf56
 v22:=zeroValue56
 t25:=underlying221
 a25:=isAgg221
 z25:=sizeOf221
 v25:=zeroValue221
 t39:=underlying178
 a39:=isAgg178
 z39:=sizeOf178
 v39:=zeroValue178
 t45:=underlying268
 a45:=isAgg268
 z45:=sizeOf268
 v45:=zeroValue268
 t46:=underlying269
 a46:=isAgg269
 z46:=sizeOf269
 v46:=zeroValue269
 t50:=underlying54
 a50:=isAgg54
 z50:=sizeOf54
 v50:=zeroValue54
 t53:=underlying104
 a53:=isAgg104
 z53:=sizeOf104
 v53:=zeroValue104
 t55:=underlying232
 a55:=isAgg232
 z55:=sizeOf232
 v55:=zeroValue232
 t66:=underlying279
 a66:=isAgg279
 z66:=sizeOf279
 v66:=zeroValue279
 t70:=underlying283
 a70:=isAgg283
 z70:=sizeOf283
 v70:=zeroValue283
 t76:=underlying286
 a76:=isAgg286
 z76:=sizeOf286
 v76:=zeroValue286
 t77:=underlying287
 a77:=isAgg287
 z77:=sizeOf287
 v77:=zeroValue287}
end Go.Proofs
namespace Go.Proofs.YtjjbaehamplnaaaGreat
theorem Tn (a b r:Int) (hr:(if a=0 then b else a)=r) (g:Nat) (w:World) (h0:w.cell? ⟨g,0,none⟩=some (.int .i64 a)) (h1:w.cell? ⟨g,1,none⟩=some (.int .i64 b)) :
  Calls prog 185 #[.slice (some ⟨g,0,none⟩) 2 2] w fun e w'=>e=.returned (.int .i64 r)/\w'=w:=by
 by_cases ha:a=0
 ·rw[Az ha]at hr;subst ha hr;by_cases hb:b=0
  ·subst hb
   go_enter func185,ntmps185
   go_wp2;go_loopw [8] (fun vi wr=>∃k:Nat,k<=2/\vi=.int .i64 k/\wr=w) (fun vi _=>2-(intOf vi).toNat)
   case atStart=>exact⟨0,ω,rfl,by trivial⟩
   case round =>
    obtain⟨k,hk,rfl,rfl⟩:=hrel;by_cases aa:k<2
    ·have hc:wr.cell? ⟨g,k,none⟩=some (.int .i64 0):=by
      match k,aa with
      | 0,_=>exact h0
      | 1,_=>exact h1
     clear h0 h1;go_wp2;go_roundw
     case rel=>exact⟨k+1,aa,ν,by trivial⟩
     case measure=>simp[intOf];omega
    ·have:¬(k:Int)<2:=ω
     go_wp2;go_ret
     exact⟨rfl,rfl⟩
  ·have hq:(b != 0)=true:=by rw[DW];exact hb
   clear hb
   go_enter func185,ntmps185
   go_wp2;go_loopw [8] (fun vi wr=>∃k:Nat,k<=1/\vi=.int .i64 k/\wr=w) (fun vi _=>2-(intOf vi).toNat)
   case atStart=>exact⟨0,ω,rfl,by trivial⟩
   case round =>
    obtain⟨k,hk,rfl,rfl⟩:=hrel;by_cases aa:k=0
    ·subst aa;clear h1;go_wp2;go_roundw
     case rel=>exact⟨1,ω,ν,by trivial⟩
     case measure=>simp[intOf]
    ·obtain rfl:k=1:=ω
     clear h0;go_wp2;go_ret
     exact⟨rfl,rfl⟩
 ·rw[AJ ha]at hr;subst hr;have hq:(a != 0)=true:=by rw[DW];exact ha
  clear h1 ha
  go_enter func185,ntmps185
  go_wp2;go_loopw [8] (fun vi wr=>vi=.int .i64 0/\wr=w) (fun _ _=>0)
  case atStart=>exact⟨rfl,by trivial⟩
  case round =>
   obtain⟨rfl,rfl⟩:=hrel;go_wp2;go_ret
   exact⟨rfl,rfl⟩
namespace Au
def oi (x y:It):Int:=if Lib.compareInt x.1 y.1=0 then Lib.compareInt x.2 y.2 else Lib.compareInt x.1 y.1
theorem kU (x y:It):ltOf oi x y=lt x y:=by
 unfold ltOf oi Lib.compareInt lt;rw[Bx];simp only[Bj,CR,Bd];split <;> split <;> (try split) <;> (try split) <;> omega
end Au
theorem OO (x y:Au.It) (W:World) :
  Calls prog 144 #[lV x,lV y] W fun e w'=>e=.returned (.int .i64 (Au.oi x y))/\∃q os',w'=Go.Sort.grow (W.drewN q) os':=by
 have ad:=aA (fun(w:World)=>Tryz.cmp_Compare_int x.1 y.1 w);have ae:=aA (fun(w:World)=>Tryz.cmp_Compare_int x.2 y.2 w);have HE:Hid (Au.oi x y=if Lib.compareInt x.1 y.1=0 then Lib.compareInt x.2 y.2 else Lib.compareInt x.1 y.1):=aA rfl;obtain⟨wb,ab⟩:∃z,z=(W.alloc (.cells #[.int .i64 x.1,.int .i64 x.2] 61)).alloc (.cells #[.int .i64 y.1,.int .i64 y.2] 61):=⟨_,rfl⟩
 have HT:Hid (bA 61 61 W #[.int .i64 x.1,.int .i64 x.2] #[.int .i64 y.1,.int .i64 y.2] wb):=aA (by rw[ab];exact bA.start _ _ _ _ _);have HG:Hid (∃os',wb=Go.Sort.grow W os'):=aA ⟨_,by rw[ab,Go.Sort.alloc_eq_grow,Go.Sort.alloc_eq_grow,Go.Sort.grow_grow]⟩;have hz:W.heap.size+2<=wb.heap.size:=HT.o.size;have HO:=aA (fun(g:Nat) (w:World)=>Tn (Lib.compareInt x.1 y.1) (Lib.compareInt x.2 y.2) (Au.oi x y) HE.o.symm g w);generalize Au.oi x y=r at *;generalize Lib.compareInt x.1 y.1=c1 at *;generalize Lib.compareInt x.2 y.2=c2 at *;clear HE
 go_enter func144,ntmps144
 go_upto_region 1 with fail
 rw[<-ab];clear ab;have q0:∀z:Calm.On wb.heap.size wb,z.1.cell? ⟨W.heap.size,0,none⟩=some (.int .i64 x.1):=fun z=>(HT.o.on z.2).c1 0 _ rfl;have q1:∀z:Calm.On wb.heap.size wb,z.1.cell? ⟨W.heap.size,1,none⟩=some (.int .i64 x.2):=fun z=>(HT.o.on z.2).c1 1 _ rfl;have q2:∀z:Calm.On wb.heap.size wb,z.1.cell? ⟨W.heap.size+1,0,none⟩=some (.int .i64 y.1):=fun z=>(HT.o.on z.2).c2 0 _ rfl;have q3:∀z:Calm.On wb.heap.size wb,z.1.cell? ⟨W.heap.size+1,1,none⟩=some (.int .i64 y.2):=fun z=>(HT.o.on z.2).c2 1 _ rfl;have f:=rM wb;have ac:Hid (∀o:Obj,∃z:Calm.On wb.heap.size wb,wb.drew.alloc o=z.1):=aA (fun o=>⟨⟨wb.drew.alloc o,(aB (AB _ _) 1).alloc (Af _) o⟩,rfl⟩);refine CalmN.fk (γ wb) (.one [0,1,2,3,5,6,7,8] 4 (.one [] 9 (.one [] 10 (.one [] 11 (.fin [12]))))) f.o ?_;simp only[CalmN.fS,CalmN.fu,CalmN.fo,Aq,Ai,Am];repeat (go_big_quiet_step (fail))
 refine Ap ?_;have HD:Hid (∃os',wb.drew=Go.Sort.grow (W.drewN 1) os'):=aA (by obtain⟨os',e⟩:=HG.o;exact⟨os',by rw[e];rfl⟩);clear q0 q1 q2 q3 HG;generalize wb.drew=wd at *;intro KK b;rw[Az ε];go_wp2_with fail
 refine(ad.o _).mono ?_;rintro _ wd ⟨rfl,rfl⟩;go_wp2_with fail
 refine b _ _ f.o _ ι f.o ?_;clear b;refine Ap ?_;intro KK b;rw[Az ε];go_wp2_with fail
 refine(ae.o _).mono ?_;rintro _ wd ⟨rfl,rfl⟩;go_wp2_with fail
 refine b _ _ f.o _ ι f.o ?_;clear b;refine Ap ?_;intro KK b;rw[Az ε];go_wp2_with fail
 refine b _ _ (ac.o _) _ ι (ac.o _) ?_;clear b;refine Ap ?_;intro KK b;rw[Az ε];have aa:=AI wd (.cells #[.int .i64 c1,.int .i64 c2] 3);have af:=aA (HO.o wd.heap.size _ (AF _ _ 0 _ _ _ aa) (AF _ _ 1 _ _ _ aa));clear aa;go_wp2_with fail
 refine af.o.mono ?_;rintro _ wz ⟨rfl,ag⟩;subst ag;go_wp2_with fail
 refine b _ _ (ac.o _) _ ι (ac.o _) ?_;clear b;repeat (go_big_quiet_step (fail))
 refine Ap ?_;obtain⟨os',e⟩:=HD.o;have HF:Hid (∃q os',wd.alloc (.cells #[.int .i64 c1,.int .i64 c2] 3)=Go.Sort.grow (W.drewN q) os'):=aA ⟨1,_,by rw[Go.Sort.alloc_eq_grow,e,Go.Sort.grow_grow]⟩;clear e;go_wp2;go_ret
 exact⟨rfl,HF.o⟩
theorem Mn (ts:List Au.It):Go.Sort.flatK fM 2 ts.toArray=(ts.flatMap fM).toArray:=by
 refine Go.Sort.ext_get! (by simp[tI aG]) fun t ht=>?_;rw[Go.Sort.size_flatK]at ht;rw[Go.Sort.get_flatK _ _ _ _ ht];have aa:t / 2<ts.length:=by simpa[Nat.div_lt_iff_lt_mul] using ht
 have h:=xE aG ts (t / 2) (t % 2) aa (Nat.mod_lt _ δ);rw[show t / 2*2+t % 2=t by omega]at h;have e1:ts.toArray[t / 2]! = ts[t / 2]:=by simp[aa]
 rw[e1];have hl:t<(ts.flatMap fM).length:=by rw[tI aG];omega
 have hm:t % 2<(fM ts[t / 2]).length:=by rw[aG];omega
 rw[AH hl,AH hm]at h;injection h with h;rw[getElem!_pos (fM ts[t / 2]) (t % 2) hm,getElem!_pos (ts.flatMap fM).toArray t (by simpa using hl)]
 simpa using h.symm
theorem Rp:Go.Sort.SWO (ltOf Au.oi) where
 irrefl x:=by rw[Au.kU];exact Au.kI x
 trans x y z h1 h2:=by rw[Au.kU]at *;exact Au.lt_trans h1 h2
 ntrans x y z h1 h2:=by
  rw[Au.kU]at *;cases h:Au.lt x z
  ·rfl
  ·have a:¬Au.lt x y=true:=by rw[h1];decide
   have b:¬Au.lt y z=true:=by rw[h2];decide
   rw[Au.lt_iff]at h a b;omega
def Au.xL (xs:List Au.It):List Au.It:=xs.mergeSort fun x y=>!Au.lt y x
theorem Au.zH {xs:List Au.It} (h:xs.Nodup):Au.jY (Au.xL xs)/\∀x,x∈Au.xL xs↔x∈xs:=by
 have hp:(Au.xL xs).Perm xs:=List.mergeSort_perm _ _;refine⟨Au.zG h hp ?_,fun x=>hp.mem_iff⟩
 have hs:=List.pairwise_mergeSort (le:=fun x y=>!Au.lt y x) (fun a b c h1 h2=>by
  simp only[EG]at *;have a1:¬Au.lt b a=true:=by rw[h1];decide
  have b1:¬Au.lt c b=true:=by rw[h2];decide
  cases q:Au.lt c a
  ·rfl
  ·rw[Au.lt_iff]at q a1 b1
   omega) (fun a b=>by
  cases q:Au.lt b a
  ·rfl
  ·have:Au.lt a b=false:=by
    cases k:Au.lt a b
    ·rfl
    ·rw[Au.lt_iff]at q k;omega
   rw[this];rfl) xs
 exact hs.imp fun {a b} h=>by simpa using h
theorem PR {cap:Nat} {xs ts:List Au.It} (h:aK 61 2 fM w base (.slice (some ⟨g,0,none⟩) xs.length cap) xs) (hl:ts.length=xs.length) (n:Nat) (os:Array Obj) :
  aK 61 2 fM (sortWorldK fM 2 w g 0 n ts.toArray os) base (.slice (some ⟨g,0,none⟩) xs.length cap) ts/\w.grownBy (sortWorldK fM 2 w g 0 n ts.toArray os) (some g):=by
 have hF:(ts.flatMap fM).length=xs.length*2:=by rw[tI aG,hl]
 rcases h.2 with⟨e,h0⟩|⟨g',cap',cur,e,hb,hg,hn,hm,hs,ht⟩
 ·cases e
 ·injection e with e1 e2 e3;injection e1 with e1;injection e1 with e1;subst e1 e3;unfold sortWorldK Go.Sort.putRowK aK;rw[Mn];have hq:(ts.flatMap fM).length=ts.length*2:=tI aG ts;generalize ts.flatMap fM=F at *;have aa:g<w.heap.size:=(Ad.1 hg).1;refine⟨?_,⟨rfl,rfl,rfl,σ,fun k hk ab=>?_⟩⟩
  ·refine⟨hq,.inr ⟨g,cap,Go.Sort.putCells id 0 F.toArray cur,by rw[hl],hb,?_,ω,hm,by simp[Go.Sort.putCells,hs],?_⟩⟩
   ·rw[Go.Sort.heap_grow_old _ _ (by simpa using aa)];simp[Go.Sort.putRow,Go.Sort.mapBlock,Go.Sort.ahead,Array.getElem?_modify,hg,Go.Sort.onCells]
   ·rw[hl,<-hF];have ac:F.length<=cur.size:=by rw[hF,hs];exact Dx 2 hn
    apply C3;intro j;by_cases hj:j<F.length
    ·rw[Dd hj,EE];simp[Go.Sort.putCells,hj,show j<cur.size by omega]
    ·rw[List.getElem?_take_eq_none ω,Ch ω]
  ·rw[Go.Sort.heap_grow_old _ _ (by simpa using hk)]
   have:g≠k:=fun e=>ab (by rw[e])
   simp[Go.Sort.putRow,Go.Sort.mapBlock,Go.Sort.ahead,Array.getElem?_modify,this]
theorem Qk {cap:Nat} {xs:List Au.It} (h:aK 61 2 fM w base (.slice (some ⟨g,0,none⟩) xs.length cap) xs):Go.Sort.HoldsK fM 2 w g 0 xs.toArray:=by
 rcases h.2 with⟨e,h0⟩|⟨g',cap',cur,e,hb,hg,hn,hm,hs,ht⟩
 ·cases e
 ·injection e with e1 e2 e3;injection e1 with e1;injection e1 with e1;subst e1 e3;unfold Go.Sort.HoldsK;rw[Mn];intro j hj;have hj:j<(xs.flatMap fM).length:=by simpa using hj
  have aa:j<xs.length*2:=by rw[<-tI aG];exact hj
  refine⟨?_,AM w g _ _ _ hg⟩;rw[BF,AF w g j _ _ _ hg];have h2:(cur.toList.take (xs.length*2))[j]?=(xs.flatMap fM)[j]?:=by rw[ht]
  rw[Dd aa,EE]at h2;rw[h2,getElem!_pos (xs.flatMap fM).toArray j (by simpa using hj),AH hj];simp
theorem Ri {xs:List Au.It} (h:aK 61 2 fM w base v xs) (hl:xs.length<=1000000) :
  Calls prog 143 #[v,.func (Fn.func 144) #[] #[]] w fun e w'=>e=.returned (.tuple #[])/\aK 61 2 fM w' base v (Au.xL xs)/\w.grownBy w' v.ownBlock:=by
 have ab:(Au.xL xs).length=xs.length:=List.length_mergeSort _;rcases Di xs.length with h0|h0
 ·have hx:xs=[]:=BI h0;subst hx;obtain⟨A,c,rfl,_⟩:=aK.form h aG;refine(AnyF.slices_SortFunc_none Tryz.vz A c _ w).mono ?_;rintro e w' ⟨rfl,rfl⟩;exact⟨rfl,by rw[show Au.xL []=[] by simp[Au.xL]];exact h,AO _ _⟩
 ·obtain⟨g,c,rfl,ac,_,ad⟩:=aK.addr h ω;have eg:∀args w,(callFunc 144 args).run prog w=.ok (.enter 144 args) w:=enters_of func144 κ rfl
  have aa:=AnyQ.slices_SortFunc_total Tryz.vz 2 (fun _=>by kernel_rfl) (fun _=>by kernel_rfl) fM aG tA Au.oi Rp 144 #[] g 0 c xs.toArray w eg (fun _ _ _ _ x y=>OO x y _) (Qk h) (aK.lt h) (by simp;omega) (fun x y h1 h2=>by
   rw[Au.kU]at h1 h2;exact BX fun hn=>by rw[Au.uE h1 hn]at h2;cases h2)
  have e1:xs.toArray.size=xs.length:=σ
  rw[e1]at aa;refine Calls.mono aa ?_;rintro e w' ⟨rfl,n,os,rfl⟩
  have e2:(xs.toArray.toList.mergeSort fun x y=>!(ltOf Au.oi) y x)=Au.xL xs:=by
   unfold Au.xL
   congr 1
   funext x y
   rw[Au.kU]
  rw[e2];obtain⟨h1,h2⟩:=PR h ab n os;exact⟨rfl,h1,h2⟩
theorem PF (v:Value) (G:Gm.Gr) (B:Nat) (l:List Au.It) (A:Option Addr) (c BL:Nat) (w:World) (hg:aT w B v G) (hf:Gm.Fit G) (a5:Gm.Ok G) (hB:B<=w.heap.size) (hl:iC 2 fM w BL A l) (a6:BL<=w.heap.size) (a9:∀x∈l,Gm.In x.1/\Gm.In x.2) (ao:l.length<=1000) :
  Calls prog 94 #[v,.slice A l.length c] w fun e w'=>∃v',e=.returned v'/\aK 61 2 fM w' w.heap.size v' (Au.jb G (l.filter (Au.ir G)))/\β w w':=by
 have HG:=aA hg;have HF:=aA hf;have H:=aA a5;have N:=aA hB;have HL:=aA hl;have br:=aA a6;have ba:=aA a9;obtain⟨AT,cT,AN,cN,AR,cR,rfl,_⟩:=hg;have ck:∀(fn:Fn) (first cap:Array Value) (w:World),(Instr.makeFunc fn first cap).run prog w=.ok (.func fn first cap) w:=fun _ _ _ _=>rfl;have bs:=fun t w=>Fh (P:=prog) t w;obtain⟨w1,X⟩:=χ (w.alloc (.cells #[.slice AT G.ts.length cT,.slice AN G.ns.length cN,.slice AR G.rs.length cR,.int .i64 G.st] 26))
 have ap:w1.heap.size=w.heap.size+1:=by rw[X];simp
 have b1:β w w1:=by rw[X];exact(AB _ _).alloc (Af _) _
 have g1:w1.heap[w.heap.size]?=some (.cells #[.slice AT G.ts.length cT,.slice AN G.ns.length cN,.slice AR G.rs.length cR,.int .i64 G.st] 26 (0,0)):=by rw[X];exact AI w _
 obtain⟨w2,Z⟩:=χ (w1.alloc (.cells #[.slice none 0 0] 56))
 have aq:w2.heap.size=w.heap.size+2:=by rw[Z];simp[ap]
 have b2:β w1 w2:=by rw[Z];exact(AB _ _).alloc (Af _) _
 have g2:w2.heap[w.heap.size+1]?=some (.cells #[.slice none 0 0] 56 (0,0)):=by rw[Z,<-ap];exact AI w1 _
 obtain⟨w3,F⟩:=χ (w2.alloc (.map #[] 0))
 have bb:w3.heap.size=w.heap.size+3:=by rw[F];simp[aq]
 have b3:β w2 w3:=by rw[F];exact(AB _ _).alloc (Af _) _
 have g3:Mw.fw wu w3 (w.heap.size+2) []:=by rw[F,<-aq];exact Mw.fw.made wu w2
 obtain⟨w4,O⟩:=χ (w3.alloc (.cells #[.map (some (w.heap.size+2))] 217))
 have b4:β w3 w4:=by rw[O];exact(AB _ _).alloc (Af _) _
 have g4:w4.heap[w.heap.size+3]?=some (.cells #[.map (some (w.heap.size+2))] 217 (0,0)):=by rw[O,<-bb];exact AI w3 _
 have bu:Hid (β w w4):=aA (((b1.trans (b2.mono ω)).trans (b3.mono ω)).trans (b4.mono ω));have bc:=aC b4 (aC b3 (aC b2 g1));have bd:=aA bc;have bf:Hid (ko w4 w.heap.size (w.heap.size+1) (w.heap.size+3) (w.heap.size+2) (Au.gi [] ([].filter (Au.ir G)))):=aA ⟨⟨_,aC b4 (aC b3 g2),aK.nil _ _⟩,g4,⟨[],g3.block (b4.block _ g3.lt),fun x=>by simp[Mw.fH,Au.gi]⟩,ω,ω,ω⟩;have cl:Hid (w.heap.size+4<=w4.heap.size):=aA (by have:=(Ad.1 g4).1;omega);clear hf a5 hB hl a6 a9 b1 b2 b3 b4 g1 g2 g3 g4 bc;have ab:(l.length:Int)<=1000:=ω
 go_enter func94,ntmps94
 go_upto_region 1 with fail
 rw[<-X];clear X;go_upto_region 2 with fail
 rw[<-Z];clear Z;go_upto_region 3 with fail
 rw[<-F];rw[<-O];clear F O ap aq bb bs;rw[show w.heap.size+2+1=w.heap.size+3 from rfl];obtain⟨pT,ar⟩:∃p,p=w.heap.size+3:=⟨_,rfl⟩
 obtain⟨pA,au⟩:∃p,p=w.heap.size+1:=⟨_,rfl⟩
 obtain⟨M,hM⟩:∃p,p=w.heap.size+2:=⟨_,rfl⟩
 rw[<-ar,<-au,<-hM]at bf;rw[<-ar,<-au,<-hM];clear ar au hM;go_wp2;go_loopw [17] (fun vi wr=>∃i:Nat,i<=l.length/\vi=.int .i64 i/\Hid (ko wr w.heap.size pA pT M (Au.gi [] ((l.take i).filter (Au.ir G))))/\Hid (β w wr)/\Hid (gm w4 wr)) (fun vi _=>l.length-(intOf vi).toNat)
 case atStart=>exact⟨0,Bb _,rfl,by simpa using bf,bu,aA (gm.refl _)⟩
 case round =>
  obtain⟨i,hi,rfl,HA,HW,HK⟩:=hrel;by_cases r:i<l.length
  ·obtain⟨g,o,rfl,bg,hc⟩:=HL.o ω;have av:g<w.heap.size:=Aj bg br.o;have k0:wr.cell? ⟨g,o+i*2,none⟩=some (.int .i64 (l[i]).1):=(HW.o.cell (p:=⟨g,o+i*2,none⟩) av).trans (hc i r 0 _ rfl);have k1:wr.cell? ⟨g,o+i*2+1,none⟩=some (.int .i64 (l[i]).2):=(HW.o.cell (p:=⟨g,o+i*2+1,none⟩) av).trans (hc i r 1 _ rfl);have bv:=aA (ba.o _ (AD r));have af:Hid (l.take (i+1)=l.take i++[l[i]]):=aA (AP r)
   have bh:=aA (show(Au.gi [] ((l.take i).filter (Au.ir G))).length<=100000 by
    have h1:=Au.mx (xs:=[]) (zs:=(l.take i).filter (Au.ir G));have h2:=CD (Au.ir G) (l.take i);rw[Bm]at h2;simp only[Ey]at h1
    omega)
   obtain⟨wi,ag⟩:=χ (wr.alloc (.cells #[.int .i64 (l[i]).1,.int .i64 (l[i]).2] 61))
   have aw:Hid (β wr wi):=aA (by rw[ag];exact(AB _ _).alloc (Af _) _);have ah:wi.heap[wr.heap.size]?=some (.cells #[.int .i64 (l[i]).1,.int .i64 (l[i]).2] 61 (0,0)):=by rw[ag];exact AI wr _
   have ax:=aA ah;have y0:=aQ ah;have y1:=aU ah;have f:w.heap.size<=wr.heap.size:=HW.o.size;have U:=aA (HW.o.trans (aw.o.mono f));have ay:=aA (HK.o.trans (.below aw.o));have bi:=aA (HA.o.below aw.o);have C:=ay.o.fp _ _ _ _ bd.o δ δ;have z0:=aQ C;have z1:=aU C;have z2:=bB C;have z3:=bL C;have ai:=aA (Rj _ G B l[i] wi (HG.o.below U.o N.o) HF.o (Ah N.o U.o.size));clear hc ah C av bg;generalize l[i]=x at *;go_upto_region 7 with fail
   rw[<-ag];clear ag k0 k1;cases hI:Au.ir G x
   ·have HE:Hid ((l.take (i+1)).filter (Au.ir G)=(l.take i).filter (Au.ir G)):=aA (by rw[af.o,CH,CA,AJ (by rw[hI];decide)];simp);rw[hI]at ai;clear hI af;go_wp2_with fail
    refine ai.o.mono ?_;rintro _ w2 ⟨rfl,b⟩;have I:=aA (bi.o.below b);have D:=aA (U.o.trans (b.mono U.o.size));have J:=aA (ay.o.trans (.below b));clear b y0 y1 z0 z1 z2 z3;go_wp2;go_roundw
    case rel=>exact⟨i+1,r,ν,aA (by rw[HE.o];exact I.o),D,J⟩
    case measure=>simp[intOf];omega
   ·have HE:Hid ((l.take (i+1)).filter (Au.ir G)=(l.take i).filter (Au.ir G)++[x]):=aA (by rw[af.o,CH,CA,Az hI];simp);rw[hI]at ai;clear hI af;go_wp2_with fail
    refine ai.o.mono ?_;rintro _ w2 ⟨rfl,b⟩;have I:=aA (bi.o.below b);have D:=aA (U.o.trans (b.mono U.o.size));have J:=aA (ay.o.trans (.below b));have aa:=aC b ax.o;have y0:=aQ aa;have y1:=aU aa;have bw:=aA (L4 w2 w.heap.size pA pT M _ x I.o bv.o bh.o);clear b aa z0 z1 z2 z3;go_wp2_with fail
    refine bw.o.mono ?_;rintro _ w3 ⟨rfl,bj,bk,bl⟩;have bx:=aA bj;have bz:=aA (D.o.trans bk);have bD:=aA (J.o.trans bl);clear bj bk bl y0 y1;go_wp2;go_roundw
    case rel=>exact⟨i+1,r,ν,aA (by rw[HE.o,Au.mw];exact bx.o),bz,bD⟩
    case measure=>simp[intOf];omega
  ·obtain rfl:i=l.length:=ω
   rw[Bp]at HA;have aj:Hid (∀x∈l.filter (Au.ir G),Au.ir G x=true):=aA (fun x hx=>(Cc.1 hx).2);generalize az:l.filter (Au.ir G)=lf at *;have bM:=aA az;clear az;obtain⟨wo,bT⟩:∃wo:World,wo=wr:=⟨_,rfl⟩
   subst bT;clear ba HL ao ab;have bX:=aA (Au.PC.start G lf);generalize Au.gi [] lf=xs0 at *;go_wp2;go_loopw [10] (fun vi wr=>∃(i:Nat) (xs:List Au.It),i<=xs.length/\vi=.int .i64 i/\Hid (Au.PC G lf i xs)/\Hid (ko wr w.heap.size pA pT M xs)/\Hid (β w wr)/\Hid (gm w4 wr)) (fun vi _=>300-(intOf vi).toNat)
   case atStart=>exact⟨0,xs0,Bb _,rfl,bX,HA,HW,HK⟩
   case round =>
    obtain⟨i,xs,hi,rfl,HP,HA,HW,HK⟩:=hrel;have az:xs.length<=287:=Ah (HP.o.le aj.o) (Au.jZ H.o H.o.kL);obtain⟨v,h1,h2⟩:=HA.o.v;have H1:=aA h1;have H2:=aA h2;have f:w.heap.size<=wr.heap.size:=HW.o.size;have C:=HK.o.fp _ _ _ _ bd.o δ δ;have ac:=aA C;by_cases r:i<xs.length
    ·obtain⟨g,c1,rfl,b0,b5,_⟩:=aK.addr h2 ω;have cA:=aQ h1;have k0:wr.cell? ⟨g,i*2,none⟩=some (.int .i64 (xs[i]).1):=aK.cellAt h2 aG i 0 r _ rfl;have k1:wr.cell? ⟨g,i*2+1,none⟩=some (.int .i64 (xs[i]).2):=aK.cellAt h2 aG i 1 r _ rfl;have a0:=aK.lt h2;have bm:=(Ad.1 h1).1;have b6:=(Ad.1 C).1;have b7:(i:Int)<(xs.length:Int):=ω
     have E:Hid (Au.PC G lf (i+1) (Au.gi xs (Au.kq G xs[i]))):=aA (HP.o.next (AH r));have bn:Hid (Au.ir G xs[i]=true):=aA (Au.pB aj.o (HP.o.c _ (AD r)));have b8:Hid (xs.length<=(Au.gi xs (Au.kq G xs[i])).length):=aA Au.lJ;have b9:=aA (fun(y:World) (h:β wr y)=>KN _ G B xs[i] y (HG.o.below (HW.o.trans (h.mono f)) N.o) HF.o (Ah N.o (Ah f h.size)));have bh:=aA (show xs.length<=50000 by omega);have ak:Hid (∃m,xs.drop m=[]/\i+1<=xs.reverse.length):=aA ⟨_,Et,by rw[Ep];exact r⟩;generalize xs[i]=x at *;generalize xs.length=n at *;clear h1 h2 C;go_upto_region 13 with fail
     have qA:∀z:Calm.On wr.heap.size wr,z.1.cell? ⟨pA,0,none⟩=some (.slice (some ⟨g,0,none⟩) n c1):=fun z=>(z.2.cell (p:=⟨pA,0,none⟩) bm).trans cA;have q0:∀z:Calm.On wr.heap.size wr,z.1.cell? ⟨g,i*2,none⟩=some (.int .i64 x.1):=fun z=>(z.2.cell (p:=⟨g,i*2,none⟩) a0).trans k0;have q1:∀z:Calm.On wr.heap.size wr,z.1.cell? ⟨g,i*2+1,none⟩=some (.int .i64 x.2):=fun z=>(z.2.cell (p:=⟨g,i*2+1,none⟩) a0).trans k1;have z0:=fun z:Calm.On wr.heap.size wr=>aQ (aC z.2 ac.o);have z1:=fun z:Calm.On wr.heap.size wr=>aU (aC z.2 ac.o);have z2:=fun z:Calm.On wr.heap.size wr=>bB (aC z.2 ac.o);have z3:=fun z:Calm.On wr.heap.size wr=>bL (aC z.2 ac.o);have ca:=rM wr;clear k0 k1 cA;refine CalmN.fk (γ wr) (.one [0,1,2,3,4] 5 (.fin [6,7,8,9,10])) ca.o ?_;simp only[CalmN.fS,CalmN.fu,CalmN.fo,Aq,Ai,Am];repeat (go_big_quiet_step (fail))
     refine Ap ?_;intro KK u;rw[Az ε];go_wp2_with fail
     refine(b9.o wr.drew (aB (AB _ _) 1)).mono ?_;rintro _ w2 ⟨rfl,b⟩;have b:β wr w2:=(aB (AB _ wr) 1).trans b;have V:=yM b;have cm:=aA b;have al:=aA (Au.uJ bn.o);have I:=aA (HA.o.below b);have D:=aA (HW.o.trans (b.mono f));have J:=aA (HK.o.trans (.below b));have j:=aA (aC b ac.o);clear b qA q0 q1 z0 z1 z2 z3 bm a0 b6 f;cases hq:Au.tN G x with
     | none =>
      have hE:=Au.mc (G:=G) (x:=x) (fun s hs=>by rw[<-al.o,hq]at hs;cases hs);rw[hE]at E;have E:Hid (Au.PC G lf (i+1) xs):=E;clear hE hq;go_wp2_with fail
      refine u _ _ V.o _ ι V.o ?_;clear u;repeat (go_big_quiet_step (fail))
      refine Ap ?_;go_wp2;go_roundw
      case rel=>exact⟨i+1,xs,by obtain⟨m,e,h⟩:=ak.o;rw[Ep]at h;exact h,ν,E,I,D,J⟩
      case measure=>simp[intOf];omega
     | some s =>
      by_cases h0:s<0
      ·have hE:=Au.pf (al.o.symm.trans hq) h0;rw[hE]at E b8;have cb:=Gm.iN.1 (Au.iU.1 (Au.sz H.o bn.o (al.o.symm.trans hq)));have cc:=(Gm.fF G).1 H.o.n;have ad:=aA (fun w=>KO s w);rw[AV h0]at ad;have cd:=aA (fun w=>JH s ω ω w);have a1:Hid (i+1<=(Au.gi xs (Au.jg G (-1-s) G.rs.length)).length):=aA (by obtain⟨m,e,h⟩:=ak.o;rw[Ep]at h;exact Ah h Au.lJ);have a2:=aA (PG _ G B (-1-s) w2.drew w.heap.size pA pT M xs (HG.o.below (aB D.o 1) N.o) N.o (Ah H.o.kL ω) (I.o.below (aB (AB _ _) 1)) (by obtain⟨m,e,h⟩:=ak.o;rw[Ep]at h;have:=HP.o.le aj.o;have:=Au.jZ H.o H.o.kL;omega));have z0:=fun z:Calm.kC w.heap.size w2=>aQ (z.2.trans j.o);have z1:=fun z:Calm.kC w.heap.size w2=>aU (z.2.trans j.o);have z2:=fun z:Calm.kC w.heap.size w2=>bB (z.2.trans j.o);have z3:=fun z:Calm.kC w.heap.size w2=>bL (z.2.trans j.o);have a3:Hid (∃z:Calm.kC w.heap.size w2,w2.drew=z.1):=aA ⟨⟨w2.drew,rfl⟩,rfl⟩;clear hE hq cb cc h0;go_wp2_with fail
       refine u _ _ V.o _ ι V.o ?_;clear u;repeat (go_big_quiet_step (fail))
       refine Ap ?_;go_wp2_with fail
       refine(ad.o _).mono ?_;rintro _ w3 ⟨rfl,F⟩;subst F;go_wp2_with fail
       refine CalmN.fk (fun x=>∃z:Calm.kC w.heap.size w3,x=z.1) (.one [0,1,3] 2 (.one [] 4 (.fin []))) a3.o ?_;simp only[CalmN.fS,CalmN.fu,CalmN.fo,Aq,Ai,Am];repeat (go_big_quiet_step (fail))
       refine Ap ?_;clear z0 z1 z2 z3;intro KK u;rw[Az ε];go_wp2_with fail
       refine(cd.o _).mono ?_;rintro _ w4' ⟨rfl,O⟩;subst O;go_wp2_with fail
       refine u _ _ a3.o _ ι a3.o ?_;clear u;refine Ap ?_;intro KK u;rw[Az ε];go_wp2_with fail
       refine a2.o.mono ?_;rintro _ w5 ⟨rfl,bo,am,ae⟩;have am:Below w.heap.size w3 w5:=(aB (AB _ w3) 1).trans am;have ae:gm w3 w5:=(gm.below (aB (AB _ w3) 1)).trans ae;have ce:=aA bo;have cf:=aA (D.o.trans am);have cg:=aA (J.o.trans ae);have bp:Hid (∃z:Calm.kC w.heap.size w3,w5=z.1):=aA ⟨⟨w5,(ae.fp _ _ _ _ j.o δ δ).trans j.o.symm⟩,rfl⟩;clear bo am ae;go_wp2_with fail
       refine u _ _ bp.o _ ι bp.o ?_;clear u;refine Ap ?_;go_wp2;go_roundw
       case rel=>exact⟨i+1,_,a1.o,ν,E,ce,cf,cg⟩
       case measure=>simp[intOf];omega
      ·have hE:=Au.mc (G:=G) (x:=x) (fun s' hs=>by rw[<-al.o,hq]at hs;injection hs with hs;omega);rw[hE]at E;have E:Hid (Au.PC G lf (i+1) xs):=E;have ad:=aA (fun w=>KO s w);rw[AU h0]at ad;clear hE hq h0;go_wp2_with fail
       refine u _ _ V.o _ ι V.o ?_;clear u;repeat (go_big_quiet_step (fail))
       refine Ap ?_;go_wp2_with fail
       refine(ad.o _).mono ?_;rintro _ w3 ⟨rfl,F⟩;subst F;go_wp2;go_roundw
       case rel=>exact⟨i+1,xs,by obtain⟨m,e,h⟩:=ak.o;rw[Ep]at h;exact h,ν,E,I,D,J⟩
       case measure=>simp[intOf];omega
    ·obtain rfl:i=xs.length:=ω
     obtain⟨A1,c1,rfl,b0,b5,_⟩:=aK.form h2 aG;have cA:=aQ h1;have ch:=aA (Ri h2 ω);have hD:=HP.o;obtain⟨hs,hm⟩:=Au.zH hD.nd;have HD:=aA (Au.PC.done aj.o hD hs hm);have ci:=aA (fun k (e:(Value.slice A1 xs.length c1).ownBlock=some k)=>(Br h2 k e).1);generalize xs.length=n at *;clear hD hs hm h1 h2 C;go_wp2_with fail
     refine ch.o.mono ?_;rintro _ w2 ⟨rfl,bq,a4⟩;have h3:=aJ H2.o a4 H1.o fun cur=>aH δ;have cA:=aQ h3;have cj:=aA bq;have D:=aA (HW.o.grown a4 f (fun k e=>ci.o k e));clear bq a4 h3;go_wp2;go_ret
     exact⟨_,rfl,by rw[bM.o,<-HD.o];exact cj.o,D.o⟩
theorem Pk (k:List Au.It) (A:Option Addr) (c B:Nat) (w:World) (hk:iC 2 fM w B A k) (hB:B<=w.heap.size) (hb:∀z∈Au.jI k,0<=z/\z<=255) (hl:k.length<=1000) :
  Calls prog 93 #[.slice A k.length c] w fun e w'=>e=.returned (.string (K.str (Au.jI k)))/\β w w':=by
 have HK:=aA hk;have HB:=aA hB;have aa:=aA hb;have aq:(k.length:Int)<=1000:=ω
 clear hk hB hb
 go_enter func93,ntmps93
 go_wp2;go_loopw [3,8] (fun vb vi wr=>∃i:Nat,i<=k.length/\vi=.int .i64 i/\Hid (bW wr w.heap.size vb (Au.jI (k.take i)))/\Hid (β w wr)) (fun _ vi _=>k.length-(intOf vi).toNat)
 case atStart=>exact⟨0,Bb _,rfl,aA (bW.nil _ _),aA (AB _ _)⟩
 case round =>
  obtain⟨i,hi,rfl,HO,HW⟩:=hrel;obtain⟨A1,c1,rfl,ar,au,ab⟩:=bW.form HO.o;by_cases b:i<k.length
  ·obtain⟨g,o,rfl,ai,hc⟩:=HK.o ω;have ae:g<w.heap.size:=Aj ai HB.o;have k0:wr.cell? ⟨g,o+i*2,none⟩=some (.int .i64 (k[i]).1):=(HW.o.cell (p:=⟨g,o+i*2,none⟩) ae).trans (hc i b 0 _ rfl);have k1:wr.cell? ⟨g,o+i*2+1,none⟩=some (.int .i64 (k[i]).2):=(HW.o.cell (p:=⟨g,o+i*2+1,none⟩) ae).trans (hc i b 1 _ rfl);have aj:Hid (Au.jI (k.take (i+1))=Au.jI (k.take i)++[(k[i]).1+1,(k[i]).2]):=aA (by rw[AP b,Au.vH]);have h1:=aa.o ((k[i]).1+1) (CJ.2 ⟨k[i],AD b,σ⟩);have h2:=aa.o (k[i]).2 (CJ.2 ⟨k[i],AD b,σ⟩);have ak:Hid ((Au.jI (k.take i)).length<=2000):=aA (by rw[Au.sK,Bm];omega);clear hc ab;generalize k[i]=x at *;generalize Au.jI (k.take i)=t at *;have av:IntKind.i64.wrap (x.1 - -1)=x.1+1:=by rw[BV _ ω];omega
   have aw:IntKind.u8.wrap (x.1+1)=x.1+1:=IntWalk.u8_in _ ω;have ax:IntKind.u8.wrap x.2=x.2:=IntWalk.u8_in _ ω;have af:=aA ((HO.o.alloc (.cells #[.int .i64 x.1,.int .i64 x.2] 61)).alloc (G1 [x.1+1,x.2]));have ac:=(UL (wr.alloc (.cells #[.int .i64 x.1,.int .i64 x.2] 61)) [x.1+1,x.2]).1;rw[show(wr.alloc (.cells #[.int .i64 x.1,.int .i64 x.2] 61)).heap.size=wr.heap.size+1 by simp]at ac;have al:=aA ac;clear ac;have ad:Hid (Below w.heap.size w ((wr.alloc (.cells #[.int .i64 x.1,.int .i64 x.2] 61)).alloc (G1 [x.1+1,x.2]))):=aA ((HW.o.alloc HW.o.size _).alloc (by have:=HW.o.size;simp;omega) _);have HZ:=aA HW.o.size;go_wp2_with (at_builtin;refine RZ rfl (.tmp 12) (.tmp 20) _ rfl underlying72 w.heap.size _ t rfl af.o _ 2 2 _ [x.1+1,x.2] rfl rfl al.o (by have:=ak.o;simp;omega) ad.o.size ?_;intro v2 w2 ag ah)
   have am:=aA ag;have ao:=aA (ad.o.grown ah ad.o.size (fun k e=>(Br af.o k e).1));clear ag ah;go_roundw
   case rel=>exact⟨i+1,b,ν,aA (by rw[aj.o];exact am.o),ao⟩
   case measure=>simp[intOf];omega
  ·obtain rfl:i=k.length:=ω
   rw[Bp]at *;have ap:Hid (K.Bytes (Au.jI k)):=aA (fun z hz=>by have:=aa.o z hz;omega);have cv:=GS ab ap.o c1;generalize he:Au.jI k=t at *;have HE:=aA he;clear ab he;go_wp2;go_ret
   exact⟨by rw[HE.o];rfl,HW.o⟩
def bR (T:TypeId) (w:World) (base N:Nat) (A:Option Addr) (xs:List (Int×Int)):Prop :=
 xs.length≠0->∃(g:Nat) (cur:Array Value),A=some ⟨g,0,none⟩/\base<=g/\g<N/\w.heap[g]?=some (.cells cur T (0,0))/\∀i (h:i<xs.length) j u,(fM xs[i])[j]?=some u->cur[i*2+j]?=some u
theorem bR.nil (T:TypeId) (w:World) (base N:Nat) (A:Option Addr):bR T w base N A []:=fun h=>absurd rfl h
theorem bR.fp {T:TypeId} {xs:List (Int×Int)} (h:bR T w base N A xs) (hk:∀g cur,g<N->w.heap[g]?=some (.cells cur T (0,0))->w'.heap[g]?=some (.cells cur T (0,0))):bR T w' base N A xs:=fun hn=>by
 obtain⟨g,cur,e,hb,hN,hh,hc⟩:=h hn;exact⟨g,cur,e,hb,hN,hk g cur hN hh,hc⟩
theorem bR.ux {T:TypeId} {xs:List (Int×Int)} (h:bR T w base N A xs) (hk:∀g cur,base<=g->g<N->w.heap[g]?=some (.cells cur T (0,0))->w'.heap[g]?=some (.cells cur T (0,0))):bR T w' base N A xs:=fun hn=>by
 obtain⟨g,cur,e,hb,hN,hh,hc⟩:=h hn;exact⟨g,cur,e,hb,hN,hk g cur hb hN hh,hc⟩
theorem bR.more {T:TypeId} {xs:List (Int×Int)} (h:bR T w base N A xs) (hN:N<=N'):bR T w base N' A xs:=fun hn=>by
 obtain⟨g,cur,e,hb,h1,hh⟩:=h hn;exact⟨g,cur,e,hb,ω,hh⟩
theorem bR.less {T:TypeId} {xs:List (Int×Int)} (h:bR T w base N A xs) (hb:base'<=base):bR T w base' N A xs:=fun hn=>by
 obtain⟨g,cur,e,h1,hN,hh⟩:=h hn;exact⟨g,cur,e,ω,hN,hh⟩
theorem bR.rd {T:TypeId} {xs:List (Int×Int)} (h:bR T w base N A xs):iC 2 fM w N A xs:=fun hn=>by
 obtain⟨g,cur,e,hb,hN,hh,hc⟩:=h hn;refine⟨g,0,e,hN,fun i hi j u hu=>?_⟩;rw[AF w g _ _ _ _ hh,BF];exact hc i hi j u hu
theorem aK.jK {T:TypeId} {c:Nat} {xs:List (Int×Int)} (h:aK T 2 fM w base (.slice A n c) xs):bR T w base w.heap.size A xs:=fun hn=>by
 rcases h.2 with⟨e,h0⟩|⟨g,cap,cur,e,hb,hg,h1,hm,hs,ht⟩
 ·exact absurd h0 hn
 ·injection e with e1 e2 e3;refine⟨g,cur,e1,hb,(Ad.1 hg).1,hg,fun i hi j u hu=>?_⟩;have hj:j<2:=by rw[<-aG xs[i]];exact(Bk.1 hu).1
  have h2:(cur.toList.take (xs.length*2))[i*2+j]?=(xs.flatMap fM)[i*2+j]?:=by rw[ht]
  rw[Dd ω,EE,xE aG xs i j hi hj]at h2;rw[h2];exact hu
abbrev QP:=List (Int×Int)×Option Addr×Nat
abbrev QS:=QP×QP
def rv (q:QP):Value:=.slice q.2.1 q.1.length q.2.2
def nP (q:QS):List Value:=[rv q.1,rv q.2]
theorem oX (q:QS):(nP q).length=2:=rfl
theorem Mv (q:QS):∀u∈nP q,u.oneCell'=true:=fun u hu=>by
 simp[nP]at hu;rcases hu with rfl|rfl <;> rfl
def yP (q:QS):nY:=(q.1.1,q.2.1)
def vY (T:TypeId) (w:World) (base N:Nat) (q:QP):Prop:=q.1.length<=q.2.2/\q.2.2<=9223372036854775807/\bR T w base N q.2.1 q.1
def yb (w:World) (base N NE:Nat) (q:QS):Prop:=vY 61 w base N q.1/\vY 96 w base NE q.2
def pd (w:World) (base N NE:Nat) (v:Value) (qs:List QS):Prop:=aK 59 2 nP w base v qs/\∀q∈qs,yb w base N NE q
theorem Nv:(prog.info? 59).map (fun i=>(i.zero,i.size,i.bytes))=some (some (.agg #[.slice none 0 0,.slice none 0 0]),2,48):=κ
theorem J0:(prog.info? 96).map (fun i=>(i.zero,i.size,i.bytes))=some (some (.agg #[.int .i64 0,.int .i64 0]),2,16):=κ
theorem yb.fp {w w':World} {base N NE:Nat} {q:QS} (h:yb w base N NE q) (hk:∀g cur T,((T=61/\g<N)\/(T=96/\g<NE))->w.heap[g]?=some (.cells cur T (0,0))->w'.heap[g]?=some (.cells cur T (0,0))):yb w' base N NE q :=
 ⟨⟨h.1.1,h.1.2.1,h.1.2.2.fp fun g cur hg hc=>hk g cur _ (.inl ⟨rfl,hg⟩) hc⟩,⟨h.2.1,h.2.2.1,h.2.2.2.fp fun g cur hg hc=>hk g cur _ (.inr ⟨rfl,hg⟩) hc⟩⟩
theorem yb.more {w:World} {base N N' NE NE':Nat} {q:QS} (h:yb w base N NE q) (hN:N<=N') (hE:NE<=NE'):yb w base N' NE' q:=⟨⟨h.1.1,h.1.2.1,h.1.2.2.more hN⟩,⟨h.2.1,h.2.2.1,h.2.2.2.more hE⟩⟩
theorem pd.nil (w:World) (base N NE:Nat):pd w base N NE (.slice none 0 0) []:=⟨aK.nil w base,σ⟩
theorem pd.below {w w':World} {base N NE:Nat} {v:Value} {qs:List QS} (h:pd w base N NE v qs) (hb:β w w'):pd w' base N NE v qs :=
 ⟨h.1.below hb (Af _),fun q hq=>(h.2 q hq).fp fun g _ _ _ hc=>(hb.block g (Ad.1 hc).1).trans hc⟩
theorem pd.rd {w:World} {base N NE n c:Nat} {A:Option Addr} {qs:List QS} (h:pd w base N NE (.slice A n c) qs) (hN:N<=w.heap.size) (hE:NE<=w.heap.size):cB w w.heap.size A (qs.map yP):=fun hn=>by
 have hn:qs.length≠0:=by simpa using hn
 obtain⟨A',c',e,_,_,ab⟩:=aK.form h.1 oX;injection e with e1 e2 e3;subst e1;obtain⟨g,o,e,hg,hc⟩:=ab hn;refine⟨g,o,e,hg,fun i hi=>?_⟩;have aa:i<qs.length:=by simpa using hi
 have hq:=h.2 _ (AD aa);rw[Cg];exact⟨⟨_,_,hc i aa 0 _ rfl,hq.1.1,hq.1.2.1,hq.1.2.2.rd.more hN⟩,⟨_,_,hc i aa 1 _ rfl,hq.2.1,hq.2.2.1,hq.2.2.2.rd.more hE⟩⟩
theorem N3 (qs:List QS) (i:Nat) (y:QS) (hy:∀h:i<qs.length,y.1=(qs[i]).1):(qs.flatMap nP).set (i*2+1) (rv y.2)=(qs.set i y).flatMap nP:=by
 induction qs generalizing i with
 | nil=>simp
 | cons x r ih =>
  cases i with
  | zero =>
   have this:y.1=x.1:=hy σ;simp[nP,this]
  | succ i =>
   have ih:=ih i fun h=>hy (Nat.succ_lt_succ h);rw[show(i+1)*2+1=(i*2+1)+1+1 by omega];simp only[B7,nP,Ct,CS,DM];rw[ih]
theorem pd.xJ {c:Nat} {qs:List QS} (h:pd w base N NE (.slice (some ⟨g,0,none⟩) n c) qs) (i:Nat) (y:QS) (hi:i<qs.length) (hy:y.1=(qs[i]).1) (hq:yb w base N NE y):pd (w.setCell ⟨g,i*2+1,none⟩ (rv y.2)) base N NE (.slice (some ⟨g,0,none⟩) n c) (qs.set i y):=by
 have hk:∀g' cur T,((T=61/\g'<N)\/(T=96/\g'<NE))->w.heap[g']?=some (.cells cur T (0,0))->(w.setCell ⟨g,i*2+1,none⟩ (rv y.2)).heap[g']?=some (.cells cur T (0,0))   := fun g' cur T hT hc=>by
  refine(AQ w ⟨g,i*2+1,none⟩ _ g' (fun e=>?_)).trans hc;have e:g'=g:=e;subst e;rcases h.1.2 with⟨e,_⟩|⟨g2,cap,cur2,e,hb,hg,_⟩
  ·cases e
  ·injection e with e _ _;injection e with e;injection e with e;subst e;rw[hg]at hc;injection hc with hc;injection hc with _ hc _;rcases hT with⟨rfl,_⟩|⟨rfl,_⟩ <;> exact absurd hc δ
 refine⟨?_,fun q aa=>?_⟩
 ·rcases h.1.2 with⟨e,_⟩|⟨g2,cap,cur,e,hb,hg,h1,hm,hs,ht⟩
  ·cases e
  ·injection e with e1 e2 e3;injection e1 with e1;injection e1 with e1;subst e1 e3;have hl:(qs.set i y).length=qs.length:=CE;unfold aK;rw[hl];refine⟨by rw[tI oX,hl],.inr ⟨g,c,cur.setIfInBounds (i*2+1) (rv y.2),by rw[e2],hb,Ba w g _ _ _ _ hg,h1,hm,by simp[hs],?_⟩⟩;rw[<-N3 qs i y (fun _=>hy),<-ht];simp only[Array.toList_setIfInBounds];rw[List.take_set]
 ·rcases DI aa with q'|q'
  ·exact(h.2 q q').fp hk
  ·rw[q'];exact hq.fp hk
def IA (p:Addr) (w:World):Type:={x:World // x.cell? p=w.cell? p}
instance (p:Addr) (w:World):Nonempty (IA p w):=⟨⟨w,rfl⟩⟩
theorem GM {o:Oper} {a:Act} {Q:Exit->Act->World->Prop} {K:Act->World->Prop} (m x:Operand) (t:TypeId) (aa:o.op=Op.mapEntry t m x) {mv xv r:Value} (h:(Instr.mapEntry t mv xv).run P w=.ok r w') (hm:a.eval m=mv) (hx:a.eval x=xv) (hK:K (a.put o.dst r) w'):o.wp P a w K Q:=by
 unfold Oper.wp;simp[execOp,aa,hm,hx,h,Result.andThen];exact hK
theorem Jr {o:Oper} {a:Act} {Q:Exit->Act->World->Prop} {K:Act->World->Prop} (m x v:Operand) (t:TypeId) (aa:o.op=Op.entryStore t m x v) {mv xv vv:Value} (h:(Instr.entryStore t mv xv vv).run P w=.ok () w') (hm:a.eval m=mv) (hx:a.eval x=xv) (hv:a.eval v=vv) (hK:K (a.put o.dst undef) w'):o.wp P a w K Q:=by
 unfold Oper.wp;simp[execOp,aa,hm,hx,hv,h,Result.andThen];exact hK
structure fX (R M:Nat) (w w':World):Prop where
 size:w.heap.size<=w'.heap.size
 fp:∀(g:Nat) (o:Obj),w.heap[g]?=some o->g≠R->g≠M->(∀cur fr,o ≠ .cells cur 59 fr)->w'.heap[g]?=some o
section
variable {R M:Nat} {w w' w2:World}
theorem fX.refl (R M:Nat) (w:World):fX R M w w:=⟨Af _,fun _ _ h _ _ _=>h⟩
theorem fX.trans (h:fX R M w w') (k:fX R M w' w2):fX R M w w2:=⟨Ah h.size k.size,fun g o h1 h2 h3 h4=>k.fp g o (h.fp g o h1 h2 h3 h4) h2 h3 h4⟩
theorem fX.below (h:β w w'):fX R M w w':=⟨h.size,fun g _ h1 _ _ _=>(h.block g (Ad.1 h1).1).trans h1⟩
theorem fX.own (h:w.ownsRow base 59 2 v n xs) (hg:w.grownBy w' v.ownBlock):fX R M w w':=⟨hg.size,fun _ _ h1 _ _ h4=>aJ h hg h1 fun cur=>h4 cur _⟩
theorem fX.map (hg:w.grownBy w' (some M)):fX R M w w':=⟨hg.size,fun g _ h1 _ h3 _=>(hg.block g (Ad.1 h1).1 (fun e=>by injection e with e;exact h3 e)).trans h1⟩
theorem fX.set (i:Nat) (u:Value):fX R M w (w.setCell ⟨R,i,none⟩ u):=⟨σ,fun g _ h1 h2 _ _=>(AQ w ⟨R,i,none⟩ u g h2).trans h1⟩
theorem fX.vy (h:w.heap[g]?=some (.cells cs 59 fr)) (u:Value):fX R M w (w.setCell ⟨g,i,none⟩ u):=⟨σ,fun g' _ h1 _ _ h4=>(AQ w ⟨g,i,none⟩ u g' (fun e=>by
 have e:g'=g:=e;rw[e,h]at h1;injection h1 with h1;exact h4 _ _ h1.symm)).trans h1⟩
end
def F7 (g0 g1 g2 g3 vS:Value) (M:Nat):Array Value:=#[g0,g1,g2,g3,vS,.map (some M)]
def aX (qs:List QS):List (List Au.It):=qs.map fun q=>q.1.1
structure lF (w:World) (base R M NE:Nat) (g0 g1 g2 g3:Value) (qs:List QS):Prop where
 b:∃vS,w.heap[R]?=some (.cells (F7 g0 g1 g2 g3 vS M) 120 (0,0))/\pd w base w.heap.size NE vS qs
 m:∃l,Mw.iL sM w M l/\Au.lP l (aX qs)
 hR:base<=R
 hM:base<=M
def bK (k:List Au.It) (A:Option Addr) (c:Nat):QS:=((k,A,c),([],none,0))
def wH (qs:List QS) (k:List Au.It) (A:Option Addr) (c:Nat):List QS:=if Au.ig (aX qs) k<0 then qs++[bK k A c] else qs
def ye (qs:List QS) (k:List Au.It):Int:=if Au.ig (aX qs) k<0 then(qs.length:Int) else Au.ig (aX qs) k
section
variable {w w':World} {base R M NE:Nat} {g0 g1 g2 g3:Value} {qs:List QS}
theorem lF.below (h:lF w base R M NE g0 g1 g2 g3 qs) (hb:β w w'):lF w' base R M NE g0 g1 g2 g3 qs:=by
 obtain⟨⟨vS,h1,h2⟩,⟨l,h3,h4⟩,h5,h6⟩:=h;have h7:=h2.below hb;exact⟨⟨vS,aC hb h1,h7.1,fun q hq=>(h7.2 q hq).more hb.size (Af _)⟩,⟨l,h3.block (hb.block _ h3.lt),h4⟩,h5,h6⟩
theorem lF.more {NE':Nat} (h:lF w base R M NE g0 g1 g2 g3 qs) (hE:NE<=NE'):lF w base R M NE' g0 g1 g2 g3 qs:=by
 obtain⟨⟨vS,h1,h2⟩,h3,h5,h6⟩:=h;exact⟨⟨vS,h1,h2.1,fun q hq=>(h2.2 q hq).more (Af _) hE⟩,h3,h5,h6⟩
theorem lF.gf (h:lF w base R M NE g0 g1 g2 g3 qs):base<=w.heap.size:=by
 obtain⟨⟨vS,h1,_⟩,_,h5,_⟩:=h
 have:=(Ad.1 h1).1
 omega
end
theorem Qi {R:Nat} (h:fX R M w w') (hR:w.heap[R]?=some (.cells cs 120 (0,0))) (hM:∀(cur:Array Value) (T:TypeId),w.heap[M]? ≠ some (.cells cur T (0,0))):∀(g:Nat) (cur:Array Value) (T:TypeId),(T=61\/T=96)->w.heap[g]?=some (.cells cur T (0,0))->w'.heap[g]?=some (.cells cur T (0,0)):=fun g cur T hT hc=>by
 refine h.fp g _ hc (fun e=>?_) (fun e=>hM cur T (by rw[<-e];exact hc)) fun cur' fr e=>?_
 ·rw[e,hR]at hc;injection hc with hc;injection hc with _ hc _;rcases hT with rfl|rfl <;> exact absurd hc δ
 ·injection e with _ e _;rcases hT with rfl|rfl <;> exact absurd e δ
theorem Ld (w:World) (base R M NE:Nat) (g0 g1 g2 g3:Value) (qs:List QS) (k:List Au.It) (A:Option Addr) (c:Nat) (h:lF w base R M NE g0 g1 g2 g3 qs) (hk:vY 61 w base w.heap.size (k,A,c)) (hb:∀z∈Au.jI k,0<=z/\z<=255) (hl:k.length<=1000) (hq:qs.length<=100000) :
  Calls prog 56 #[.pointer (some ⟨R,0,none⟩),.slice A k.length c] w fun e w'=>e=.returned (.int .i64 (ye qs k))/\lF w' base R M NE g0 g1 g2 g3 (wH qs k A c)/\Below base w w'/\fX R M w w':=by
 have HT:=aA (Pk k A c w.heap.size w hk.2.2.rd (Af _) hb hl);have m:=aA h.gf;have HH:=aA h;have HK:=aA hk;have HQ:=aA hq;have aw:Hid (K.Tx (Au.jI k)):=aA ⟨fun z hz=>by have:=hb z hz;omega,by rw[Au.sK];omega⟩;by_cases hf:Au.ig (aX qs) k<0
 focus
  have HF:=aA hf;have HI:Hid (ye qs k=(qs.length:Int)):=aA (by unfold ye;rw[Az hf]);have ax:Hid (wH qs k A c=qs++[bK k A c]):=aA (by unfold wH;rw[Az hf])
 rotate_left
 focus
  have HI:Hid (ye qs k=Au.ig (aX qs) k):=aA (by unfold ye;rw[AJ hf]);have ax:Hid (wH qs k A c=qs):=aA (by unfold wH;rw[AJ hf]);have HF:=aA hf
 rotate_left
 all_goals
  clear h hk hb hl hf hq;rw[HI.o,ax.o]
  go_enter func56,ntmps56
  go_wp2_with fail
  refine HT.o.mono ?_;rintro _ w1 ⟨rfl,aj⟩;have n:=aA aj;have ay:=aA (HH.o.below aj);obtain⟨⟨vS,h1,h2⟩,⟨l,h3,h4⟩,h5,h6⟩:=ay.o
 focus
  obtain⟨AS,cq,rfl,ba,bb,_⟩:=aK.form h2.1 oX;have cM:=vU h1;have cS:=qJ h1;have i:Mw.fH l (Au.jI k)=none:=by rw[h4 k,Az HF.o]
 rotate_left
 focus
  have cM:=vU h1;have i:Mw.fH l (Au.jI k)=some (.int .i64 (Au.ig (aX qs) k)):=by rw[h4 k,AJ (by have:=HF.o;omega)]
 rotate_left
 all_goals
  have ad:sM.enc (Au.jI k)=.string (K.str (Au.jI k)):=rfl;have lk:=Mw.gP (E:=sM) h3.is IJ (t:=118) underlying118 (z:=.int .i64 0) κ (x:=Au.jI k) aw.o true;rw[i,ad]at lk;simp at lk
 focus
  have H1:=aA h1;have bc:=aA h1;have H2:=aA h2;have H3:=aA h3;have H4:=aA h4;have H5:=aA h5;have H6:=aA h6;have am:=aA i;have bo:=aA (fun k (e:(Value.slice AS qs.length cq).ownBlock=some k)=>(Br h2.1 k e).1);have ao:Hid (M≠R):=aA (fun e=>by rw[<-e]at h1;exact h3.is.fD h1);have bp:(qs.length:Int)<=100000:=by have:=HQ.o;omega
  have bd:=(Ad.1 h1).1;have fR:=AM w1 R 4 _ _ h1;clear h1 h2 h3 h4 h5 h6 aj i;generalize K.str (Au.jI k)=str at *;go_upto_region 5 with fail
  have qM:∀y:IA ⟨R,5,none⟩ w1,y.1.cell? ⟨R,5,none⟩=some (.map (some M)):=fun y=>y.2.trans cM;have p:Hid (∀y:World,y.cell? ⟨R,5,none⟩=w1.cell? ⟨R,5,none⟩->∃z:IA ⟨R,5,none⟩ w1,y=z.1):=aA (fun y e=>⟨⟨y,e⟩,rfl⟩);have ap:=aA (p.o w1.drew rfl);clear lk fR ba bb;refine CalmN.fk (fun x=>∃y:IA ⟨R,5,none⟩ w1,x=y.1) (.two [0,1,2,3,4,5,6,7,8,9,11,12] 10 (.one [] 13 (.one [] 14 (.one [] 15 (.one [16] 17 (.one [18,19] 20 (.fin [])))))) 13 (.one [] 10 (.one [] 14 (.one [] 15 (.one [16] 17 (.one [18,19] 20 (.fin []))))))) ap.o ?_;rw[CalmN.fS];simp only[CalmN.fo,Aq,Ai,Am];repeat (go_big_quiet_step (fail))
  have aq:Hid (β w1 w1.drew):=aA (aB (AB _ _) 1);have H1:Hid (w1.drew.heap[R]?=some (.cells (F7 g0 g1 g2 g3 (.slice AS qs.length cq) M) 120 (0,0))):=H1;have bf:Hid (aK 59 2 nP w1.drew base (.slice AS qs.length cq) qs):=aA H2.o.1;have bg:Hid (Mw.iL sM w1.drew M l):=aA (H3.o.block rfl);have c4:w1.drew.cell? ⟨R,4,none⟩=some (.slice AS qs.length cq):=cS;have B:Hid (w1.cell? ⟨R,5,none⟩=some (.map (some M))):=aA cM;have bh:R<w1.drew.heap.size:=bd;clear qM cS cM;generalize w1.drew=wd at *;have r:Hid (Below wd.heap.size wd (wd.alloc (.cells #[.slice A k.length c,.slice none 0 0] 59))):=aA ((AB _ _).alloc (Af _) _);have c4a:=qJ (aC r.o H1.o);have s:=aA (p.o (wd.alloc (.cells #[.slice A k.length c,.slice none 0 0] 59)) ((AF _ R 5 _ _ _ (aC r.o H1.o)).trans B.o.symm));refine Ap ⟨?_,?_⟩
  case' refine_1 =>
   simp only[CalmN.fS,CalmN.fu,CalmN.fo,Aq,Ai,Am];intro KK b;rw[Az ε];go_wp2_with fail
   refine b _ _ ap.o _ ι ap.o ?_;clear b;refine Ap ?_;intro KK b;rw[Az ε];go_wp2_with fail
   refine b _ _ s.o _ ι s.o ?_;clear b;refine Ap ?_
  case' refine_2 =>
   simp only[CalmN.fS,CalmN.fu,CalmN.fo,Aq,Ai,Am];intro KK b;rw[Az ε];go_wp2_with fail
   refine b _ _ s.o _ ι s.o ?_;clear b;refine Ap ?_;intro KK b;rw[Az ε];go_wp2_with fail
   refine b _ _ s.o _ ι s.o ?_;clear b;refine Ap ?_
  all_goals
   intro KK b;rw[Az ε];have C:=aA (bf.o.alloc (.cells #[.slice A k.length c,.slice none 0 0] 59));have b1:=aC r.o H1.o;obtain⟨es,ck,az,a0⟩:=bg.o;have bM:=aC r.o az;have ae:=AI wd (.cells #[.slice A k.length c,.slice none 0 0] 59);have ac:Hid (Below base w (wd.alloc (.cells #[.slice A k.length c,.slice none 0 0] 59))):=aA (((n.o.mono m.o).trans (aq.o.mono (Ah m.o n.o.size))).trans (r.o.mono (Ah m.o (Ah n.o.size aq.o.size))));clear c4 c4a;refine J2 (f:=nP) (.tmp 36) (.tmp 39) _ rfl underlying45 _ 48 Nv δ δ δ oX Mv base _ qs rfl C.o _ _ (bK k A c) rfl (fun j u hu=>?_) (by have:=HQ.o;omega) (Ah m.o ac.o.size) ?_
   ·refine(AF _ wd.heap.size j _ _ _ ae).trans ?_
    match j,hu with
    | 0,hu=>exact hu
    | 1,hu=>exact hu
    | j+2,hu=>simp[nP]at hu
   intro v5 w5 ar D;obtain⟨A5,c5,rfl,_,_,_⟩:=aK.form ar oX;have r5:=aJ C.o D b1 fun cur=>aH δ;have m5:=aJ C.o D bM fun cur e=>by cases e
   have bi:Hid (Mw.iL sM w5 M l):=aA ⟨es,ck,m5,a0⟩;have a1:=aA (p.o w5 ((AF w5 R 5 _ _ _ r5).trans B.o.symm));have ak:Hid (Below base w w5):=aA (ac.o.grown D (Ah m.o ac.o.size) (fun k e=>(Br C.o k e).1));have bj:Hid (fX R M w1 w5):=aA (((fX.below aq.o).trans (.below r.o)).trans (.own C.o D));have bq:=aA r5;have a2:=aA ar;obtain⟨c0,w6,aa,a3,v⟩:=Mw.tg bi.o IJ underlying118 (z:=.int .i64 0) κ aw.o am.o;rw[ad]at aa;obtain⟨w7,ab,a4,F⟩:=Mw.rE (t:=118) a3 (.int .i64 (qs.length:Int));have r6:=(v.block R (Ad.1 r5).1 (fun e=>by injection e with e;exact ao.o e.symm)).trans r5;have r7:=(F.block R (Ad.1 r6).1 (fun e=>by injection e with e;exact ao.o e.symm)).trans r6;have a5:=aA (p.o w6 ((AF w6 R 5 _ _ _ r6).trans B.o.symm));have a6:=aA (p.o w7 ((AF w7 R 5 _ _ _ r7).trans B.o.symm));have bk:=Ah m.o ak.o.size;have bl:Hid (Below base w w7):=aA (aM (aM ak.o v H6.o (Ah m.o ak.o.size)) F H6.o (Ah (Ah m.o ak.o.size) v.size));have af:=aA aa;have ag:=aA ab;have c47:=qJ r7;have f47:=AM w7 R 4 _ _ r7;have l47:=(Ad.1 r7).1;obtain⟨es6,z6,ah,_⟩:=a3;have ai:=a4;obtain⟨es7,ck7,au,_⟩:=a4;have o6:=Bf a2.o v (qn a2.o m5 fun cur e=>by cases e);have o7:=Bf o6 F (qn o6 ah fun cur e=>by cases e);have o8:aK 59 2 nP (w7.setCell ⟨R,4,none⟩ (.slice A5 (qs++[bK k A c]).length c5)) base (.slice A5 (qs++[bK k A c]).length c5) (qs++[bK k A c]):=Bf o7 (aF (AO _ _) 4 _) (qn o7 r7 fun cur=>aH δ);have al:Hid (fX R M w1 (w7.setCell ⟨R,4,none⟩ (.slice A5 (qs++[bK k A c]).length c5))):=aA (((bj.o.trans (.map v)).trans (.map F)).trans (.set 4 _));have av:=Qi al.o bc.o (fun cur T=>H3.o.is.fD)
   have HP:Hid (lF (w7.setCell ⟨R,4,none⟩ (.slice A5 (qs++[bK k A c]).length c5)) base R M NE g0 g1 g2 g3 (qs++[bK k A c])):=aA (by
    refine⟨⟨_,Ba w7 R 4 _ _ _ r7,o8,fun q hq=>?_⟩,⟨_,ai.block (AQ w7 ⟨R,4,none⟩ _ M ao.o),?_⟩,H5.o,H6.o⟩
    ·rcases Bs.1 hq with hq|hq
     ·exact((H2.o.2 q hq).fp fun g cur T hT hc=>av g cur T (hT.imp (·.1) (·.1)) hc).more al.o.size (Af _)
     ·rw[AW.1 hq];exact⟨⟨HK.o.1,HK.o.2.1,((HK.o.2.2.fp fun g cur hg hc=>(n.o.block g hg).trans hc).fp fun g cur _ hc=>av g cur _ (.inl rfl) hc).more (Ah n.o.size al.o.size)⟩,⟨Bb _,Bb _,bR.nil _ _ _ _ _⟩⟩
    ·have:=Au.lP.snoc H4.o HF.o
     have e1:(aX qs).length=qs.length:=by unfold aX;rw[Bh]
     have e2:aX (qs++[bK k A c])=aX qs++[k]:=by unfold aX;rw[Bi];rfl
     rw[e1]at this;rw[e2];exact this)
   have bm:Hid (Below base w (w7.setCell ⟨R,4,none⟩ (.slice A5 (qs++[bK k A c]).length c5))):=aA (bl.o.setCell H5.o _);have bn:Hid (fX R M w (w7.setCell ⟨R,4,none⟩ (.slice A5 (qs++[bK k A c]).length c5))):=aA ((fX.below n.o).trans al.o);have a9:=aA (p.o (w7.setCell ⟨R,4,none⟩ (.slice A5 (qs++[bK k A c]).length c5)) ((AF _ R 5 _ _ _ (Ba w7 R 4 _ _ _ r7)).trans B.o.symm));clear r5 m5 ar D aa v ab F r6 r7 ah au o6 o7 o8 av b1 bM az a0 ae ai bk;generalize (qs++[bK k A c]).length=ln at *;refine b _ _ a1.o _ ι a1.o ?_;clear b;refine Ap ?_;intro KK b;rw[Az ε];refine GM _ _ _ rfl af.o rfl rfl ?_;refine b _ _ a5.o _ ι a5.o ?_;clear b
   go_frame
   repeat (go_big_quiet_step (fail))
   refine Ap ?_;intro KK b;rw[Az ε];refine Jr _ _ _ _ rfl ag.o rfl rfl rfl ?_;refine b _ _ a6.o _ ι a6.o ?_;clear b
   go_frame
   repeat (go_big_quiet_step (fail))
   refine Ap ?_;intro KK b;rw[Az ε];go_wp2_with fail
   refine b _ _ a9.o _ ι a9.o ?_;clear b c47 f47 l47;refine Ap ?_;go_wp2;go_ret
   exact⟨rfl,HP.o,bm.o,bn.o⟩
 focus
  clear h1 h2 h3 h4 h5 h6 aj i;generalize K.str (Au.jI k)=str at *;go_wp2;go_ret
  exact⟨rfl,ay.o,n.o.mono m.o,.below n.o⟩
end Go.Proofs.YtjjbaehamplnaaaGreat
