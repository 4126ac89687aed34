/- Part of the proofs over this program: MapW, CfgNames, CfgLevels, CfgRules, CfgRight, LexQuo, LexPiece2, Floats, PlaceFn, PlaceAt, LexTok, LexScan, YaccL, CfgL, CfgR, CfgR2, CfgEq, TrimL. -/
import Derived.Maps.OwnSet
import Derived.ScopeJumps
import Derived.WalkMore
import Derived.Laws.FloatArith
import Derived.Test.YtcmhaemaophplaaGreatKA
namespace Go.Mw
open Go.RowKit Go.Maps
structure Enc (P:Program) (kt:TypeId) (κ:Type) where
 enc:κ->Value
 ok:κ->Prop
 key:∀x,ok x->∃l,keyOf P kt (enc x)=some l
 inj:∀x y,ok x->ok y->enc x=enc y->x=y
section
variable {κ:Type} [DecidableEq κ] {α:Type}
def asc:List (κ×α)->κ->Option α
 | [],_=>none
 | (k,v)::r,x=>if k=x then some v else asc r x
theorem za5 {l:List (κ×α)} {x:κ}:asc l x=none ↔ ∀p∈l,p.1≠x:=by
 induction l with
 | nil=>simp[asc]
 | cons p r ih =>
  obtain⟨k,v⟩:=p;unfold asc;by_cases h:k=x
  ·rw[if_pos h];simp[h]
  ·rw[if_neg h,ih];simp[h]
theorem asc_mem {l:List (κ×α)} {x:κ} {v:α} (h:asc l x=some v):(x,v)∈l:=by
 induction l with
 | nil=>simp[asc]at h
 | cons p r ih =>
  obtain⟨k,u⟩:=p;unfold asc at h;by_cases hk:k=x
  ·rw[if_pos hk]at h;injection h with h;subst h hk;simp
  ·rw[if_neg hk]at h;exact List.mem_cons_of_mem _ (ih h)
theorem asc_of_mem {l:List (κ×α)} {x:κ} {v:α} (hn:(l.map Prod.fst).Nodup) (h:(x,v)∈l):asc l x=some v:=by
 induction l with
 | nil=>simp at h
 | cons p r ih =>
  obtain⟨k,u⟩:=p;rw[List.map_cons,List.nodup_cons]at hn;unfold asc;rcases List.mem_cons.1 h with e|e
  ·injection e with e1 e2;subst e1 e2;rw[if_pos rfl]
  ·have:k≠x:=fun q=>hn.1 (by rw[q];exact List.mem_map.2 ⟨(x,v),e,rfl⟩)
   rw[if_neg this];exact ih hn.2 e
theorem asc_snoc {l:List (κ×α)} {k x:κ} {v:α} (h:asc l k=none):asc (l++[(k,v)]) x=if k=x then some v else asc l x:=by
 induction l with
 | nil=>simp[asc]
 | cons p r ih =>
  obtain⟨k',u⟩:=p;unfold asc at h;split at h
  ·cases h
  ·rename_i hk
   rw[List.cons_append]
   show(if k'=x then some u else asc (r++[(k,v)]) x)=if k=x then some v else if k'=x then some u else asc r x
   rw[ih h];by_cases h1:k'=x
   ·rw[if_pos h1,if_pos h1,if_neg (fun e=>hk (h1.trans e.symm))]
   ·rw[if_neg h1,if_neg h1]
end
section
variable {P:Program} {kt:TypeId} {κ:Type}
def MapIs (E:Enc P kt κ) (w:World) (b:Nat) (l:List (κ×Value)):Prop :=
 ∃es clock,w.heap[b]?=some (.map es clock)/\es.toList.map (fun e=>(e.key,e.val))=l.map (fun p=>(E.enc p.1,p.2))/\(∀p∈l,E.ok p.1)/\(l.map Prod.fst).Nodup
variable {E:Enc P kt κ} {w:World} {b:Nat} {l:List (κ×Value)}
theorem MapIs.made (E:Enc P kt κ) (w:World):MapIs E (w.alloc (.map #[] 0)) w.heap.size [] :=
 ⟨#[],0,(MapKept.heap_alloc w _).1,rfl,by simp,by simp⟩
theorem MapIs.lt (h:MapIs E w b l):b<w.heap.size:=by
 obtain⟨es,clock,hb,_⟩:=h;exact(Array.getElem?_eq_some_iff.1 hb).1
theorem MapIs.kept {w':World} {row:Option Nat} (h:MapIs E w b l) (hg:w.grownBy w' row) (hne:some b≠row):MapIs E w' b l:=by
 have hlt:=h.lt;obtain⟨es,clock,hb,r⟩:=h;exact⟨es,clock,(hg.block b hlt hne).trans hb,r⟩
theorem MapIs.block {w':World} (h:MapIs E w b l) (hg:w'.heap[b]?=w.heap[b]?):MapIs E w' b l:=by
 obtain⟨es,clock,hb,r⟩:=h;exact⟨es,clock,hg.trans hb,r⟩
theorem MapIs.not_cells (h:MapIs E w b l) {cs:Array Value} {t:TypeId} {f:Nat×Nat}:w.heap[b]? ≠ some (.cells cs t f):=by
 obtain⟨es,clock,hb,_⟩:=h;rw[hb];intro e;cases e
theorem run_len {t e:TypeId} (h:MapIs E w b l) (ht:P.underlying t=some (.map kt e)) (ty:TypeId):(Builtin.len_ #[t] ty #[.map (some b)]).run P w=.ok (.int .i64 (l.length:Nat)) w:=by
 obtain⟨es,clock,hb,he,_⟩:=h;have e1:es.size=l.length:=by have:=congrArg List.length he;simpa using this
 simp[Builtin.len_,run_underlying ht,MapKept.run_getObj_map hb,goInt,Result.andThen,e1]
variable [DecidableEq κ]
theorem find_in (h:MapIs E w b l) (K:Keyed P kt) {x:κ} (hx:E.ok x):∃es clock,w.heap[b]?=some (.map es clock)/\es.toList.map (fun e=>(e.key,e.val))=l.map (fun p=>(E.enc p.1,p.2)) /\
  (((Instr.findKey kt (E.enc x) es.toList).run P w=.ok none w/\asc l x=none) \/ ∃(j:Nat) (e:MapEntry),(Instr.findKey kt (E.enc x) es.toList).run P w=.ok (some (j,e.val)) w/\es.toList[j]?=some e/\e.key=E.enc x/\asc l x=some e.val/\l[j]?=some (x,e.val)):=by
 obtain⟨es,clock,hb,he,hk,hn⟩:=h;refine⟨es,clock,hb,he,?_⟩;obtain⟨lx,hlx⟩:=E.key x hx
 have hkeys:∀e∈es.toList,∃l,keyOf P kt e.key=some l:=by
  intro e hm
  have:(e.key,e.val)∈es.toList.map (fun e=>(e.key,e.val)):=List.mem_map.2 ⟨e,hm,rfl⟩
  rw[he]at this;obtain⟨p,hp,e1⟩:=List.mem_map.1 this;injection e1 with e1 _;rw[<-e1];exact E.key p.1 (hk p hp)
 rcases K.find w hlx es.toList hkeys with⟨h1,h2⟩|⟨j,e,h1,h2,h3⟩
 ·refine .inl ⟨h1,za5.2 fun p hp q=>?_⟩
  have:(E.enc p.1,p.2)∈es.toList.map (fun e=>(e.key,e.val)):=by rw[he];exact List.mem_map.2 ⟨p,hp,rfl⟩
  obtain⟨e,hm,e1⟩:=List.mem_map.1 this;injection e1 with e1 _;exact h2 e hm (by rw[e1,q])
 ·refine .inr ⟨j,e,h1,h2,h3,?_⟩;have hj:(es.toList.map (fun e=>(e.key,e.val)))[j]?=some (e.key,e.val):=by rw[List.getElem?_map,h2];rfl
  rw[he,List.getElem?_map]at hj;obtain⟨p,hp,e1⟩:=Option.map_eq_some_iff.1 hj;injection e1 with e1 e2;have hpm:p∈l:=List.mem_of_getElem? hp;have hpx:p.1=x:=E.inj _ _ (hk p hpm) hx (e1.trans h3);have hpe:p=(x,e.val):=by rw[<-hpx,<-e2]
  rw[hpe]at hp hpm;exact⟨asc_of_mem hn hpm,hp⟩
theorem run_look {t e:TypeId} (h:MapIs E w b l) (K:Keyed P kt) (ht:P.underlying t=some (.map kt e)) {z:Value} (hz:(zeroValue e).run P w=.ok z w) {x:κ} (hx:E.ok x) (c:Bool) :
  (Instr.lookup t (.map (some b)) (E.enc x) c).run P w=.ok (if c then .tuple #[(asc l x).getD z,.bool (asc l x).isSome] else(asc l x).getD z) w:=by
 obtain⟨lx,hlx⟩:=E.key x hx;obtain⟨es,clock,hb,_,hf⟩:=find_in h K hx;rcases hf with⟨h1,h2⟩|⟨j,e0,h1,_,_,h2,_⟩
 ·rw[h2];simp[Instr.lookup,run_underlying ht,MapKept.run_getObj_map hb,K.check w _ hlx,h1,hz,Result.andThen]
 ·rw[h2];simp[Instr.lookup,run_underlying ht,MapKept.run_getObj_map hb,K.check w _ hlx,h1,Result.andThen]
theorem run_store {t e:TypeId} (h:MapIs E w b l) (K:Keyed P kt) (ht:P.underlying t=some (.map kt e)) {x:κ} (hx:E.ok x) (v:Value) (hv:asc l x=none\/asc l x=some v) :
  ∃w',(Instr.mapUpdate t (.map (some b)) (E.enc x) v).run P w=.ok () w'/\MapIs E w' b (if asc l x=none then l++[(x,v)] else l)/\w.grownBy w' (some b):=by
 obtain⟨lx,hlx⟩:=E.key x hx;have h0:=h;obtain⟨es,clock,hb,he,hf⟩:=find_in h K hx;obtain⟨es0,clock0,hb0,he0,hk,hn⟩:=h0;rw[hb]at hb0;injection hb0 with hb0;injection hb0 with hb0 hb1;subst hb0 hb1;rcases hf with⟨h1,h2⟩|⟨j,e0,h1,h2,h3,h4,h5⟩
 ·rw[if_pos h2];refine⟨ChangeMaps.setBlock w b (.map (es.push ⟨E.enc x,v,clock⟩) (clock+1)),?_,⟨_,_,ChangeMaps.heap_setBlock_same hb _,?_,?_,?_⟩,⟨rfl,rfl,rfl,by simp[ChangeMaps.setBlock],fun i _ hi=>ChangeMaps.heap_setBlock_other hb _ (fun e=>hi (by rw[e]))⟩⟩
  ·simp[Instr.mapUpdate,run_underlying ht,MapKept.run_getObj_map hb,K.check w false hlx,h1,MapKept.run_setObj_map _ hb,Result.andThen,ChangeMaps.setBlock]
  ·rw[Array.toList_push,List.map_append,List.map_append,he];rfl
  ·intro p hp;rcases List.mem_append.1 hp with q|q
   ·exact hk p q
   ·rw[List.mem_singleton]at q;subst q;exact hx
  ·rw[List.map_append,List.nodup_append];refine⟨hn,by simp,fun a ha c hc=>?_⟩;obtain⟨p,hp,rfl⟩:=List.mem_map.1 ha;simp only[List.map_cons,List.map_nil,List.mem_singleton]at hc;subst hc;exact za5.1 h2 p hp
 ·have hve:v=e0.val:=by
   rcases hv with q|q
   ·rw[h4]at q;cases q
   ·rw[h4]at q;injection q with q;exact q.symm
  rw[if_neg (by rw[h4];simp)];have hj:es[j]?=some e0:=by simpa using h2
  have hmod:(es.modify j (fun e=>{e with key:=E.enc x,val:=v})).toList.map (fun e=>(e.key,e.val))=es.toList.map (fun e=>(e.key,e.val)):=by
   rw[Array.toList_modify,ChangeMaps.modify_eq_set _ _ _ _ h2,List.map_set];have hjl:j<(es.toList.map (fun e=>(e.key,e.val))).length:=by rw[List.length_map];exact(List.getElem?_eq_some_iff.1 h2).1
   apply List.ext_getElem?;intro i;rw[List.getElem?_set];by_cases hij:j=i
   ·subst hij;rw[if_pos rfl,if_pos hjl,List.getElem?_map,h2,<-h3,hve];rfl
   ·rw[if_neg hij]
  refine⟨ChangeMaps.setBlock w b (.map (es.modify j (fun e=>{e with key:=E.enc x,val:=v})) clock),?_,⟨_,_,ChangeMaps.heap_setBlock_same hb _,hmod.trans he,hk,hn⟩,⟨rfl,rfl,rfl,by simp[ChangeMaps.setBlock],fun i _ hi=>ChangeMaps.heap_setBlock_other hb _ (fun e=>hi (by rw[e]))⟩⟩;simp[Instr.mapUpdate,run_underlying ht,MapKept.run_getObj_map hb,K.check w false hlx,h1,hj,h3,K.stays w hlx,MapKept.run_setObj_map _ hb,Result.andThen,ChangeMaps.setBlock]
end
theorem wpList_store {P:Program} {w:World} {ops:Array Oper} {rest:List Oper} {o:Oper} {a:Act} {Q:Exit->Act->World->Prop}
  (hg:o.guard=none) (m x v:Operand) (t:TypeId) (hop:o.op=Op.mapUpdate t m x v) {mv xv vv:Value} {R:World->Prop} (h:∃w',(Instr.mapUpdate t mv xv vv).run P w=.ok () w'/\R w') (hm:a.eval m=mv) (hx:a.eval x=xv) (hv:a.eval v=vv)
  (hK:∀w',R w'->wpList P ops Q rest (a.put o.dst undef) w'):wpList P ops Q (o::rest) a w:=by
 refine wpList_plain hg fun K' hK'=>?_;obtain⟨w',hrun,hR⟩:=h;unfold Oper.wp;simp[execOp,hop,hm,hx,hv,hrun,Result.andThen];exact hK' _ _ (hK w' hR)
end Go.Mw
namespace Go.Proofs.YtcmhaemaophplaaGreat
end Go.Proofs.YtcmhaemaophplaaGreat
namespace Go.Proofs.YtcmhaemaophplaaGreat
set_option maxRecDepth 100000
set_option maxHeartbeats 40000000
open Go.RowKit
def zdQ:Mw.Enc Tryz.prog 9 (List Int) where
 enc s:=.string (K.str s)
 ok:=K.Tx
 key s h:=⟨_,Go.WideMaps.keyOf_string_mk Tryz.underlying9 (by rw[K.str_size];unfold maxLen;exact h.2)⟩
 inj x y hx hy h:=by injection h with h;exact(K.str_eq hx.1 hy.1).1 h
theorem zkf:Maps.Keyed Tryz.prog 9:=Maps.string_keyed Tryz.underlying9
theorem zee (s:List Int) (hs:K.Tx s) (w:World) :
  Calls Tryz.prog 157 #[.string (K.str s)] w fun e w'=>e=.returned (.bool (Gm.named s))/\Below w.heap.size w w':=by
 have HN:=aA (fun w=>zeE s hs.1 w);have HL:=aA (fun w=>zjF s hs.1 hs.2 w);unfold Gm.named;clear hs;cases q:T.isName s
 ·rw[q]at HN;clear q;generalize T.isLit s=b at *
  go_enter Tryz.func157,Tryz.ntmps157
  go_wp2_with fail
  refine(HN.o _).mono ?_;rintro _ w1 ⟨rfl,hb⟩;have HB:=aA hb;clear hb;go_wp2_with fail
  refine(HL.o _).mono ?_;rintro _ _ ⟨rfl,rfl⟩;go_wp2;go_ret
  exact⟨aG (by simp),HB.o⟩
 ·rw[q]at HN;clear q
  go_enter Tryz.func157,Tryz.ntmps157
  go_wp2_with fail
  refine(HN.o _).mono ?_;rintro _ w1 ⟨rfl,hb⟩;have HB:=aA hb;clear hb;go_wp2;go_ret
  exact⟨aG (by simp),HB.o⟩
def dd:List (List Int)->List (List Int)->List (List Int)
 | acc,[]=>acc
 | acc,s::r=>dd (if s∈acc then acc else acc++[s]) r
theorem zjQ (acc l:List (List Int)) (s:List Int):dd acc (l++[s])=if s∈dd acc l then dd acc l else dd acc l++[s]:=by
 induction l generalizing acc with
 | nil=>rfl
 | cons x r ih=>rw[List.cons_append,dd,dd,ih]
theorem zls (acc l:List (List Int)) (hn:acc.Nodup):(dd acc l).length<=acc.length+l.length/\((dd acc l).length=acc.length+l.length↔(acc++l).Nodup):=by
 induction l generalizing acc with
 | nil=>simp[dd,hn]
 | cons x r ih =>
  rw[dd];by_cases hx:x∈acc
  ·rw[if_pos hx]
   have:=(ih acc hn).1
   refine⟨by rw[List.length_cons];omega,⟨fun e=>by rw[List.length_cons]at e;omega,fun h=>?_⟩⟩;rw[List.nodup_append]at h;exact absurd rfl (h.2.2 x hx x (by simp))
  ·rw[if_neg hx]
   have hn':(acc++[x]).Nodup:=by
    rw[List.nodup_append];exact⟨hn,by simp,fun a ha b hb e=>by rw[List.mem_singleton]at hb;subst hb e;exact hx ha⟩
   have:=ih (acc++[x]) hn'
   rw[List.length_append,List.length_singleton,List.append_assoc,List.singleton_append]at this;refine⟨by have:=this.1;rw[List.length_cons];omega,?_⟩;rw[<-this.2,List.length_cons];omega
def nmL (l:List (List Int)):List (List Int×Value):=(dd [] l).map fun s=>(s,.bool true)
theorem zhn (l:List (List Int)) (s:List Int):Mw.asc (nmL l) s=if s∈dd [] l then some (.bool true) else none:=by
 unfold nmL;generalize dd [] l=m;induction m with
 | nil=>rfl
 | cons x r ih =>
  rw[List.map_cons,Mw.asc,ih];by_cases h:x=s
  ·subst h;simp
  ·rw[if_neg h]
   have:s≠x:=fun e=>h e.symm
   simp[this]
theorem zeD (l:List (List Int)) (s:List Int):(if Mw.asc (nmL l) s=none then nmL l++[(s,.bool true)] else nmL l)=nmL (l++[s]):=by
 rw[zhn];unfold nmL;rw[zjQ];by_cases h:s∈dd [] l
 ·rw[if_pos h,if_pos h];rfl
 ·rw[if_neg h,if_neg h,if_pos rfl,List.map_append];rfl
theorem ziU (l:List (List Int)) (s:List Int):Mw.asc (nmL l) s=none\/Mw.asc (nmL l) s=some (.bool true):=by
 rw[zhn];split
 ·exact .inr rfl
 ·exact .inl rfl
def rnB (G:Gm.Gr):Bool:=decide (G.ts.length<=24)&&decide (1<=G.ns.length)&&decide (G.ns.length<=16)&&(G.ts.all fun t=>Gm.named t.nm)&&(G.ns.all T.isName)&&decide ((nmL (Gm.names G.ts++G.ns)).length=G.ts.length+G.ns.length)
theorem rn_t {G:Gm.Gr} {k:Nat} (h:k<G.ts.length) (hn:Gm.named G.ts[k].nm=false):rnB G=false:=by
 unfold rnB
 have:(G.ts.all fun t=>Gm.named t.nm)=false:=List.all_eq_false.2 ⟨_,List.getElem_mem h,by rw[hn];simp⟩
 rw[this];simp
theorem rn_n {G:Gm.Gr} {k:Nat} (h:k<G.ns.length) (hn:T.isName G.ns[k]=false):rnB G=false:=by
 unfold rnB
 have:(G.ns.all T.isName)=false:=List.all_eq_false.2 ⟨_,List.getElem_mem h,by rw[hn];simp⟩
 rw[this];simp
def zeq {α:Type} (l:List α) (f:α->Bool) (k:Nat):Prop:=∀i (h:i<l.length),i<k->f l[i]=true
theorem zeq.zero {α:Type} (l:List α) (f:α->Bool):zeq l f 0:=fun _ _ h=>by omega
theorem zeq.next {α:Type} {l:List α} {f:α->Bool} {k:Nat} (h:zeq l f k) (hk:k<l.length) (hn:f l[k]=true):zeq l f (k+1):=fun i hi hik=>by
 rcases Nat.lt_or_ge i k with q|q
 ·exact h i hi q
 ·obtain rfl:i=k:=by omega
  exact hn
theorem zeq.all {α:Type} {l:List α} {f:α->Bool} (h:zeq l f l.length):l.all f=true:=by
 rw[List.all_eq_true];intro x hx;obtain⟨i,hi,rfl⟩:=List.getElem_of_mem hx;exact h i hi hi
theorem zdf {α:Type} {l:List α} {k:Nat} (h:k<l.length):l.take (k+1)=l.take k++[l[k]]:=List.take_succ_eq_append_getElem h
theorem zcd (v:Value) (G:Gm.Gr) (B:Nat) (w:World) (hg:aU w B v G) (hf:Gm.Fit G) (hB:B<=w.heap.size) :
  Calls Tryz.prog 133 #[v] w fun e w'=>e=.returned (.bool (rnB G))/\Below w.heap.size w w':=by
 obtain⟨AT,cT,AN,cN,AR,cR,rfl,⟨hlT,hmT⟩,⟨hlN,hmN⟩,_,ht,hn,_⟩:=hg;have HT:=aA ht;have HN:=aA hn;have HF:=aA hf;have HS0:=aA (One.start w #[.slice AT G.ts.length cT,.slice AN G.ns.length cN,.slice AR G.rs.length cR,.int .i64 G.st]);have hlenT:(G.ts.length:Int)<=9223372036854775807:=by omega
 have hlenN:(G.ns.length:Int)<=9223372036854775807:=by omega
 clear ht hn hf;by_cases h24:24<G.ts.length
 ·have HX:Hid (rnB G=false):=aA (by unfold rnB;rw[decide_eq_false (show ¬G.ts.length<=24 by omega)];rfl);rw[HX.o]
  go_enter Tryz.func133,Tryz.ntmps133
  go_wp2;go_ret
  exact⟨rfl,HS0.o.below⟩
 by_cases h0:G.ns.length<1
 ·have HX:Hid (rnB G=false):=aA (by unfold rnB;rw[decide_eq_false (show ¬1<=G.ns.length by omega)];simp);have e0:((G.ns.length:Int)==0)=true:=beq_iff_eq.2 (by omega);rw[HX.o];clear h0
  go_enter Tryz.func133,Tryz.ntmps133
  go_wp2;go_ret
  exact⟨rfl,HS0.o.below⟩
 have e0:((G.ns.length:Int)==0)=false:=beq_eq_false_iff_ne.2 (by omega);by_cases h16:16<G.ns.length
 ·have HX:Hid (rnB G=false):=aA (by unfold rnB;rw[decide_eq_false (show ¬G.ns.length<=16 by omega)];simp);rw[HX.o];clear h0
  go_enter Tryz.func133,Tryz.ntmps133
  go_wp2;go_ret
  exact⟨rfl,HS0.o.below⟩
 clear h0;have hmm:=@run_makeMap Tryz.prog;have HM0:=aA (Mw.MapIs.made zdQ (w.alloc (.cells #[.slice AT G.ts.length cT,.slice AN G.ns.length cN,.slice AR G.rs.length cR,.int .i64 G.st] 26)));have hs1:(w.alloc (.cells #[.slice AT G.ts.length cT,.slice AN G.ns.length cN,.slice AR G.rs.length cR,.int .i64 G.st] 26)).heap.size=w.heap.size+1:=by simp
 rw[hs1]at HM0;have HS1:=aA (HS0.o.alloc (.map #[] 0));clear hs1
 go_enter Tryz.func133,Tryz.ntmps133
 go_wp2;go_loopw [28] (fun vi wr=>∃(k:Nat),k<=G.ts.length/\vi=.int .i64 k/\Hid (zeq G.ts (fun t=>Gm.named t.nm) k)/\One w #[.slice AT G.ts.length cT,.slice AN G.ns.length cN,.slice AR G.rs.length cR,.int .i64 G.st] wr/\Hid (Mw.MapIs zdQ wr (w.heap.size+1) (nmL (Gm.names (G.ts.take k))))) (fun vi _=>G.ts.length-(intOf vi).toNat)
 case atStart=>exact⟨0,Nat.zero_le _,rfl,aA (zeq.zero _ _),HS1.o,HM0⟩
 case round =>
  obtain⟨k,hk,rfl,HA,hb,HM⟩:=hrel;have HB:=aA hb;have hz:w.heap.size<wr.heap.size:=hb.size;have hz1:w.heap.size+1<wr.heap.size:=HM.o.lt;have hbw:=hb.below;have q1:=hb.c 1 _ rfl;clear hb;by_cases hlt:k<G.ts.length
  ·obtain⟨g,o,rfl,hgb,hc⟩:=HT.o (by omega);have k0:=(hbw.cell (p:=⟨g,o+k*3,none⟩) (Nat.lt_of_lt_of_le hgb hB)).trans (hc k hlt).1;have k1:=(hbw.cell (p:=⟨g,o+k*3+1,none⟩) (Nat.lt_of_lt_of_le hgb hB)).trans (hc k hlt).2.1;have k2:=(hbw.cell (p:=⟨g,o+k*3+2,none⟩) (Nat.lt_of_lt_of_le hgb hB)).trans (hc k hlt).2.2;have hgs:g<wr.heap.size:=by omega
   have hft:=(HF.o.t _ (List.getElem_mem hlt)).1;have HNM:=aA (fun x=>zee _ hft x);have HTX:=aA hft;have HA':=aA (fun h=>HA.o.next hlt h);have HNO:=aA (fun h=>rn_t hlt h);have HNX:Hid (nmL (Gm.names (G.ts.take k)++[G.ts[k].nm])=nmL (Gm.names (G.ts.take (k+1)))):=aA (by rw[zdf hlt];unfold Gm.names;rw[List.map_append];rfl);clear hc hbw hft;generalize G.ts[k].nm=nm at *;generalize G.ts[k].lv=lv at *;generalize G.ts[k].wy=wy at *;cases q:Gm.named nm
   ·have HX:=aA (HNO.o q);rw[q]at HNM;clear q;go_wp2_with fail
    refine(HNM.o _).mono ?_;rintro _ w2 ⟨rfl,hb2⟩;have HB2:=aA ((HB.o.alloc _).on hb2);clear hb2;go_wp2;go_ret
    exact⟨aG HX.o.symm,HB2.o.below⟩
   ·have HX:=aA (HA'.o q);rw[q]at HNM;clear q;go_wp2_with fail
    refine(HNM.o _).mono ?_;rintro _ w2 ⟨rfl,hb2⟩;have HB2:=aA ((HB.o.alloc _).on hb2);have hbb:=(hb2.block wr.heap.size (by simp)).trans (heap_alloc_new wr _);have hz2:wr.heap.size<w2.heap.size:=(Array.getElem?_eq_some_iff.1 hbb).1;have f0:=cell_of_row w2 _ 0 _ _ _ hbb;have HM2:=aA ((HM.o.kept (World.grownBy_alloc wr _ none) (by simp)).kept (aM hb2 none) (by simp));clear hb2 hbb;have HST:=aA (Mw.run_store (x:=nm) HM2.o zkf Tryz.underlying217 HTX.o (.bool true) (ziU _ _));go_wp2_with (at_mapUpdate;refine Mw.wpList_store rfl _ _ _ _ rfl HST.o rfl rfl rfl ?_;rintro w3 ⟨hm3,hg3⟩)
    have HB3:=aA (Below.grown HB2.o hg3 HB2.o.size (fun k e=>by injection e with e;omega));have HM3:Hid (Mw.MapIs zdQ w3 (w.heap.size+1) (nmL (Gm.names (G.ts.take (k+1))))):=aA (by rw[<-HNX.o,<-zeD];exact hm3);clear hm3 hg3;go_roundw
    case rel=>exact⟨k+1,by omega,by go_num,HX,HB3.o,HM3⟩
    case measure=>simp[intOf];omega
  ·obtain rfl:k=G.ts.length:=by omega
   have HA1:=aA HA.o.all;have HM1:Hid (Mw.MapIs zdQ wr (w.heap.size+1) (nmL (Gm.names G.ts++G.ns.take 0))):=aA (by have h:=HM.o;rw[List.take_length]at h;rw[List.take_zero,List.append_nil];exact h);clear hbw hk hlt HA HM;go_wp2;go_loopw [43] (fun vi wr=>∃(k:Nat),k<=G.ns.length/\vi=.int .i64 k/\Hid (zeq G.ns T.isName k)/\One w #[.slice AT G.ts.length cT,.slice AN G.ns.length cN,.slice AR G.rs.length cR,.int .i64 G.st] wr/\Hid (Mw.MapIs zdQ wr (w.heap.size+1) (nmL (Gm.names G.ts++G.ns.take k)))) (fun vi _=>G.ns.length-(intOf vi).toNat)
   case atStart=>exact⟨0,Nat.zero_le _,rfl,aA (zeq.zero _ _),HB.o,HM1⟩
   case round =>
    clear q1 hz hz1 HB HM1;obtain⟨k,hk,rfl,HA,hb,HM⟩:=hrel;have HB:=aA hb;have hz:w.heap.size<wr.heap.size:=hb.size;have hz1:w.heap.size+1<wr.heap.size:=HM.o.lt;have hbw:=hb.below;have q0:=hb.c 0 _ rfl;have q1:=hb.c 1 _ rfl;clear hb;by_cases hlt:k<G.ns.length
    ·obtain⟨g,o,rfl,hgb,hc⟩:=HN.o (by omega);have k0:=(hbw.cell (p:=⟨g,o+k,none⟩) (Nat.lt_of_lt_of_le hgb hB)).trans (hc k hlt);have hgs:g<wr.heap.size:=by omega
     have hft:=HF.o.n _ (List.getElem_mem hlt);have HNM:=aA (fun x=>zeE _ hft.1 x);have HTX:=aA hft;have HA':=aA (fun h=>HA.o.next hlt h);have HNO:=aA (fun h=>rn_n hlt h);have HNX:Hid (nmL (Gm.names G.ts++G.ns.take k++[G.ns[k]])=nmL (Gm.names G.ts++G.ns.take (k+1))):=aA (by rw[zdf hlt,List.append_assoc]);obtain⟨s,qs⟩:∃t,t=G.ns[k]:=⟨_,rfl⟩
     rw[<-qs]at k0 HNM HTX HA' HNO HNX;clear hc hbw hft qs;cases q:T.isName s
     ·have HX:=aA (HNO.o q);rw[q]at HNM;clear q;go_wp2_with fail
      refine(HNM.o _).mono ?_;rintro _ w2 ⟨rfl,hb2⟩;have HB2:=aA (HB.o.on hb2);clear hb2;go_wp2;go_ret
      exact⟨aG HX.o.symm,HB2.o.below⟩
     ·have HX:=aA (HA'.o q);rw[q]at HNM;clear q;go_wp2_with fail
      refine(HNM.o _).mono ?_;rintro _ w2 ⟨rfl,hb2⟩;have HB2:=aA (HB.o.on hb2);have HM2:=aA (HM.o.kept (aM hb2 none) (by simp));clear hb2;have HST:=aA (Mw.run_store (x:=s) HM2.o zkf Tryz.underlying217 HTX.o (.bool true) (ziU _ _));go_wp2_with (at_mapUpdate;refine Mw.wpList_store rfl _ _ _ _ rfl HST.o rfl rfl rfl ?_;rintro w3 ⟨hm3,hg3⟩)
      have HB3:=aA (Below.grown HB2.o hg3 HB2.o.size (fun k e=>by injection e with e;omega));have HM3:Hid (Mw.MapIs zdQ w3 (w.heap.size+1) (nmL (Gm.names G.ts++G.ns.take (k+1)))):=aA (by rw[<-HNX.o,<-zeD];exact hm3);clear hm3 hg3;go_roundw
      case rel=>exact⟨k+1,by omega,by go_num,HX,HB3.o,HM3⟩
      case measure=>simp[intOf];omega
    ·obtain rfl:k=G.ns.length:=by omega
     have HA2:=aA HA.o.all;have HM1:Hid (Mw.MapIs zdQ wr (w.heap.size+1) (nmL (Gm.names G.ts++G.ns))):=aA (by have h:=HM.o;rw[List.take_length]at h;exact h);have hL:=Mw.run_len HM1.o Tryz.underlying217 3
     have HX:Hid (rnB G=(((nmL (Gm.names G.ts++G.ns)).length:Int)==(G.ts.length:Int)+(G.ns.length:Int))):=aA (by
      unfold rnB;rw[HA1.o,HA2.o,decide_eq_true (show G.ts.length<=24 by omega),decide_eq_true (show 1<=G.ns.length by have:=beq_eq_false_iff_ne.1 e0;omega),decide_eq_true (show G.ns.length<=16 by omega)];simp only[Bool.true_and];rw[Bool.eq_iff_iff];simp only[decide_eq_true_eq,beq_iff_eq]
      omega)
     generalize (nmL (Gm.names G.ts++G.ns)).length=m at *;clear hbw hk hlt HA HM HM1;go_wp2_with (simp only[hL])
     go_ret
     exact⟨aG HX.o.symm,HB.o.below⟩
def zfz:Mw.Enc Tryz.prog 3 Int where
 enc z:=.int .i64 z
 ok:=Gm.In
 key z h:=⟨_,Maps.keyOf_int_mk Tryz.underlying3 (WalkArith.wf_i64 (by unfold Gm.In at h;omega))⟩
 inj x y _ _ h:=by injection h
theorem zj6:Maps.Keyed Tryz.prog 3:=Maps.int_keyed Tryz.underlying3
def asB (t:Gm.Tm):Bool:=if t.wy=0 then t.lv==0 else if t.wy=1\/t.wy=2\/t.wy=3 then decide (0<t.lv) else false
theorem zce (t:Gm.Tm) (w:World) :
  Calls Tryz.prog 159 #[.agg #[.string (K.str t.nm),.int .i64 t.lv,.int .i64 t.wy]] w fun e w'=>e=.returned (.bool (asB t))/\Below w.heap.size w w':=by
 have HB:=aA (fun o=>(Below.refl w.heap.size w).alloc (Nat.le_refl _) o);obtain⟨nm,lv,wy⟩:=t;unfold asB;simp only;generalize K.str nm=s at *;by_cases h0:wy=0
 ·subst h0;rw[if_pos rfl]
  go_enter Tryz.func159,Tryz.ntmps159
  go_wp2;go_ret
  exact⟨rfl,HB.o _⟩
 rw[if_neg h0];by_cases h1:wy=1
 ·subst h1;rw[if_pos (by simp)]
  go_enter Tryz.func159,Tryz.ntmps159
  go_wp2;go_ret
  exact⟨rfl,HB.o _⟩
 by_cases h2:wy=2
 ·subst h2;rw[if_pos (by simp)]
  go_enter Tryz.func159,Tryz.ntmps159
  go_wp2;go_ret
  exact⟨rfl,HB.o _⟩
 by_cases h3:wy=3
 ·subst h3;rw[if_pos (by simp)]
  go_enter Tryz.func159,Tryz.ntmps159
  go_wp2;go_ret
  exact⟨rfl,HB.o _⟩
 rw[if_neg (by omega)];have e0:(wy==0)=false:=beq_eq_false_iff_ne.2 h0;have e1:(wy==1)=false:=beq_eq_false_iff_ne.2 h1;have e2:(wy==2)=false:=beq_eq_false_iff_ne.2 h2;have e3:(wy==3)=false:=beq_eq_false_iff_ne.2 h3
 go_enter Tryz.func159,Tryz.ntmps159
 go_wp2;go_ret
 exact⟨rfl,HB.o _⟩
def zdC (m:List (Int×Int)) (t:Gm.Tm):List (Int×Int):=if 0<t.lv then(if Mw.asc m t.lv=none then m++[(t.lv,t.wy)] else m) else m
def rlF:List Gm.Tm->List (Int×Int)->Int->Bool
 | [],m,g=>(m.length:Int)==g
 | t::r,m,g=>if asB t=false then false else if(Mw.asc m t.lv).isSome=true/\(Mw.asc m t.lv).getD 0≠t.wy then false else rlF r (zdC m t) (max g t.lv)
theorem zhR {ts:List Gm.Tm} {k:Nat} (h:k<ts.length) (m:List (Int×Int)) (g:Int):rlF (ts.drop k) m g=if asB ts[k]=false then false else if(Mw.asc m ts[k].lv).isSome=true/\(Mw.asc m ts[k].lv).getD 0≠ts[k].wy then false else rlF (ts.drop (k+1)) (zdC m ts[k]) (max g ts[k].lv):=by
 rw[List.drop_eq_getElem_cons h,rlF]
theorem zjl {ts:List Gm.Tm} {k:Nat} (h:ts.length<=k) (m:List (Int×Int)) (g:Int):rlF (ts.drop k) m g=((m.length:Int)==g):=by
 rw[List.drop_eq_nil_of_le h,rlF]
def lvL (m:List (Int×Int)):List (Int×Value):=m.map fun p=>(p.1,.int .i64 p.2)
theorem zem (m:List (Int×Int)) (z:Int):Mw.asc (lvL m) z=(Mw.asc m z).map (fun y=>.int .i64 y):=by
 unfold lvL;induction m with
 | nil=>rfl
 | cons p r ih =>
  obtain⟨k,v⟩:=p;rw[List.map_cons,Mw.asc,Mw.asc,ih];by_cases h:k=z
  ·rw[if_pos h,if_pos h];rfl
  ·rw[if_neg h,if_neg h]
theorem zeJ (m:List (Int×Int)) (z:Int):(Mw.asc (lvL m) z).getD (.int .i64 0)=.int .i64 ((Mw.asc m z).getD 0)/\(Mw.asc (lvL m) z).isSome=(Mw.asc m z).isSome:=by
 rw[zem];cases Mw.asc m z <;> exact⟨rfl,rfl⟩
theorem zhB (w:World):(zeroValue 3).run Tryz.prog w=.ok (.int .i64 0) w:=by kernel_rfl
theorem zbU (A:Option Addr) (c B:Nat) (ts:List Gm.Tm) (w:World) (ht:zfa w B A ts) (hf:∀x∈ts,K.Tx x.nm/\Gm.In x.lv/\Gm.In x.wy) (hB:B<=w.heap.size) (hlen:(ts.length:Int)<=9223372036854775807) :
  Calls Tryz.prog 134 #[.slice A ts.length c] w fun e w'=>e=.returned (.bool (rlF ts [] 0))/\Below w.heap.size w w':=by
 have HT:=aA ht;have HF:=aA hf;have hmm:=@run_makeMap Tryz.prog;have HM0:=aA (Mw.MapIs.made zfz w);have HS0:=aA ((Below.refl w.heap.size w).alloc (Nat.le_refl _) (.map #[] 0));clear ht hf
 go_enter Tryz.func134,Tryz.ntmps134
 go_wp2;go_loopw [4,12] (fun vg vi wr=>∃(k:Nat) (m:List (Int×Int)) (g:Int),k<=ts.length/\vi=.int .i64 k/\vg=.int .i64 g/\Hid (rlF ts [] 0=rlF (ts.drop k) m g)/\Below w.heap.size w wr/\Hid (Mw.MapIs zfz wr w.heap.size (lvL m))) (fun _ vi _=>ts.length-(intOf vi).toNat)
 case atStart=>exact⟨0,[],0,Nat.zero_le _,rfl,rfl,aA rfl,HS0.o,HM0⟩
 case round =>
  obtain⟨k,m,g,hk,rfl,rfl,HE,hb,HM⟩:=hrel;have HB:=aA hb;have hz:w.heap.size<wr.heap.size:=HM.o.lt;by_cases hlt:k<ts.length
  ·obtain⟨gb,o,rfl,hgb,hc⟩:=HT.o (by omega);have k0:=(hb.cell (p:=⟨gb,o+k*3,none⟩) (Nat.lt_of_lt_of_le hgb hB)).trans (hc k hlt).1;have k1:=(hb.cell (p:=⟨gb,o+k*3+1,none⟩) (Nat.lt_of_lt_of_le hgb hB)).trans (hc k hlt).2.1;have k2:=(hb.cell (p:=⟨gb,o+k*3+2,none⟩) (Nat.lt_of_lt_of_le hgb hB)).trans (hc k hlt).2.2;have hgs:gb<wr.heap.size:=by omega
   have hft:=(HF.o _ (List.getElem_mem hlt)).2;have HIN:=aA hft;have HAS:=aA (fun x=>zce ts[k] x);have HR:=aA (zhR hlt m g);clear hc hft;generalize ts[k]=t at *;obtain⟨nm,lv,wy⟩:=t;simp only at k0 k1 k2 HIN HAS HR;have HM1:=aA (HM.o.kept (World.grownBy_alloc wr (.cells #[.string (K.str nm),.int .i64 lv,.int .i64 wy] 81) none) (by simp));have HLK:=Mw.run_look (x:=lv) HM1.o zj6 Tryz.underlying218 (zhB _) HIN.o.1 true;rw[if_pos rfl,(zeJ m lv).1,(zeJ m lv).2]at HLK;have HLK':(Instr.lookup 218 (.map (some w.heap.size)) (.int .i64 lv) true).run Tryz.prog (wr.alloc (.cells #[.string (K.str nm),.int .i64 lv,.int .i64 wy] 81))=.ok (.tuple #[.int .i64 ((Mw.asc m lv).getD 0),.bool (Mw.asc m lv).isSome]) (wr.alloc (.cells #[.string (K.str nm),.int .i64 lv,.int .i64 wy] 81)):=HLK;have HBA:=aA (fun o=>HB.o.alloc HB.o.size o);clear HLK hb;generalize qa:asB ⟨nm,lv,wy⟩=ba at *;clear qa;cases ba
   ·have HX:=aA (HE.o.trans (HR.o.trans (if_pos rfl)));go_wp2_with fail
    refine(HAS.o _).mono ?_;rintro _ w2 ⟨rfl,hb2⟩;have HB2:=aA ((HBA.o _).trans (hb2.mono (HBA.o _).size));clear hb2;go_wp2;go_ret
    exact⟨aG HX.o.symm,HB2.o⟩
   have HR1:=aA (HE.o.trans (HR.o.trans (if_neg (by simp))))
   have HSO:Hid (¬((Mw.asc m lv).isSome=true/\(Mw.asc m lv).getD 0≠wy)->Mw.asc (lvL m) lv=none\/Mw.asc (lvL m) lv=some (.int .i64 wy)):=aA (fun h=>by
    rw[zem];cases q:Mw.asc m lv with
    | none=>exact .inl rfl
    | some y =>
     rw[q]at h
     have:y=wy:=Classical.byContradiction fun n=>h ⟨rfl,n⟩
     rw[this];exact .inr rfl)
   have HPUT:Hid (¬0<lv->zdC m ⟨nm,lv,wy⟩=m):=aA (fun h=>by unfold zdC;rw[if_neg h])
   have HPUT2:Hid (0<lv->lvL (zdC m ⟨nm,lv,wy⟩)=if Mw.asc (lvL m) lv=none then lvL m++[(lv,.int .i64 wy)] else lvL m):=aA (fun h=>by
    unfold zdC;rw[if_pos h,zem];cases q:Mw.asc m lv with
    | none=>simp[lvL]
    | some y=>simp)
   by_cases h2:(Mw.asc m lv).isSome=true/\(Mw.asc m lv).getD 0≠wy
   ·have HX:=aA (HR1.o.trans (if_pos h2));obtain⟨h3,h4⟩:=h2;rw[h3]at HLK';have h5:((Mw.asc m lv).getD 0 != wy)=true:=by simpa using h4
    clear h3 h4 HSO;generalize (Mw.asc m lv).getD 0=zs at *;go_wp2_with fail
    refine(HAS.o _).mono ?_;rintro _ w2 ⟨rfl,hb2⟩;have HB2:=aA ((HBA.o _).trans (hb2.mono (HBA.o _).size));have hbb:=(hb2.block wr.heap.size (by simp)).trans (heap_alloc_new wr _);have hz2:wr.heap.size<w2.heap.size:=(Array.getElem?_eq_some_iff.1 hbb).1;have f1:=cell_of_row w2 _ 1 _ _ _ hbb;have f2:=cell_of_row w2 _ 2 _ _ _ hbb;clear hb2 hbb;go_wp2;go_ret
    exact⟨aG HX.o.symm,HB2.o⟩
   ·have HX:=aA (HR1.o.trans (if_neg h2));have HSS:=aA (HSO.o h2)
    have h3:((Mw.asc m lv).isSome&&((Mw.asc m lv).getD 0 != wy))=false:=by
     cases q:(Mw.asc m lv).isSome
     ·rfl
     ·rw[Bool.true_and];by_cases q2:(Mw.asc m lv).getD 0=wy
      ·rw[q2];simp
      ·exact absurd ⟨q,q2⟩ h2
    generalize qs:(Mw.asc m lv).isSome=kn at HLK' h3;generalize qg:(Mw.asc m lv).getD 0=zs at HLK' h3;clear h2 qs qg HSO HR1 HR HE;by_cases hp:0<lv
    ·have HP:=aA (HPUT2.o hp);cases kn
     ·go_wp2_with fail
      refine(HAS.o _).mono ?_;rintro _ w2 ⟨rfl,hb2⟩;have HB2:=aA ((HBA.o _).trans (hb2.mono (HBA.o _).size));have hbb:=(hb2.block wr.heap.size (by simp)).trans (heap_alloc_new wr _);have hz2:wr.heap.size<w2.heap.size:=(Array.getElem?_eq_some_iff.1 hbb).1;have f1:=cell_of_row w2 _ 1 _ _ _ hbb;have f2:=cell_of_row w2 _ 2 _ _ _ hbb;have HM2:=aA (HM1.o.kept (aM hb2 none) (by simp));have HBC:=aA (fun(x:World) (h:w2.grownBy x (some w.heap.size))=>(cell_of_row x _ 1 _ _ _ ((h.block wr.heap.size hz2 (fun e=>by injection e with e;omega)).trans hbb)));clear hb2 hbb;have HST:=aA (Mw.run_store (x:=lv) HM2.o zj6 Tryz.underlying218 HIN.o.1 (.int .i64 wy) HSS.o);rw[<-HP.o]at HST;clear HLK';go_wp2_with (at_mapUpdate;refine Mw.wpList_store rfl _ _ _ _ rfl HST.o rfl rfl rfl ?_;rintro w3 ⟨hm3,hg3⟩;have f3:=HBC.o _ hg3)
      have HB3:=aA (Below.grown HB2.o hg3 HB2.o.size (fun k e=>by injection e with e;omega));have HM3:=aA hm3;clear hm3 hg3;go_roundw
      case rel=>exact⟨k+1,_,_,by omega,by go_num,rfl,HX,HB3.o,HM3⟩
      case measure=>simp[intOf];omega
     ·have h4:(zs != wy)=false:=by simpa using h3
      clear h3;go_wp2_with fail
      refine(HAS.o _).mono ?_;rintro _ w2 ⟨rfl,hb2⟩;have HB2:=aA ((HBA.o _).trans (hb2.mono (HBA.o _).size));have hbb:=(hb2.block wr.heap.size (by simp)).trans (heap_alloc_new wr _);have hz2:wr.heap.size<w2.heap.size:=(Array.getElem?_eq_some_iff.1 hbb).1;have f1:=cell_of_row w2 _ 1 _ _ _ hbb;have f2:=cell_of_row w2 _ 2 _ _ _ hbb;have HM2:=aA (HM1.o.kept (aM hb2 none) (by simp));have HBC:=aA (fun(x:World) (h:w2.grownBy x (some w.heap.size))=>(cell_of_row x _ 1 _ _ _ ((h.block wr.heap.size hz2 (fun e=>by injection e with e;omega)).trans hbb)));clear hb2 hbb;have HST:=aA (Mw.run_store (x:=lv) HM2.o zj6 Tryz.underlying218 HIN.o.1 (.int .i64 wy) HSS.o);rw[<-HP.o]at HST;clear HLK';go_wp2_with (at_mapUpdate;refine Mw.wpList_store rfl _ _ _ _ rfl HST.o rfl rfl rfl ?_;rintro w3 ⟨hm3,hg3⟩;have f3:=HBC.o _ hg3)
      have HB3:=aA (Below.grown HB2.o hg3 HB2.o.size (fun k e=>by injection e with e;omega));have HM3:=aA hm3;clear hm3 hg3;go_roundw
      case rel=>exact⟨k+1,_,_,by omega,by go_num,rfl,HX,HB3.o,HM3⟩
      case measure=>simp[intOf];omega
    ·have HP:=aA (HPUT.o hp);have hp':=Int.not_lt.1 hp;clear hp;cases kn
     ·go_wp2_with fail
      refine(HAS.o _).mono ?_;rintro _ w2 ⟨rfl,hb2⟩;have HB2:=aA ((HBA.o _).trans (hb2.mono (HBA.o _).size));have hbb:=(hb2.block wr.heap.size (by simp)).trans (heap_alloc_new wr _);have hz2:wr.heap.size<w2.heap.size:=(Array.getElem?_eq_some_iff.1 hbb).1;have f1:=cell_of_row w2 _ 1 _ _ _ hbb;have f2:=cell_of_row w2 _ 2 _ _ _ hbb;have HM2:=aA (HM1.o.kept (aM hb2 none) (by simp));clear hb2 hbb;rw[HP.o]at HX;clear HLK';go_wp2;go_roundw
      case rel=>exact⟨k+1,_,_,by omega,by go_num,rfl,HX,HB2.o,HM2⟩
      case measure=>simp[intOf];omega
     ·have h4:(zs != wy)=false:=by simpa using h3
      clear h3;go_wp2_with fail
      refine(HAS.o _).mono ?_;rintro _ w2 ⟨rfl,hb2⟩;have HB2:=aA ((HBA.o _).trans (hb2.mono (HBA.o _).size));have hbb:=(hb2.block wr.heap.size (by simp)).trans (heap_alloc_new wr _);have hz2:wr.heap.size<w2.heap.size:=(Array.getElem?_eq_some_iff.1 hbb).1;have f1:=cell_of_row w2 _ 1 _ _ _ hbb;have f2:=cell_of_row w2 _ 2 _ _ _ hbb;have HM2:=aA (HM1.o.kept (aM hb2 none) (by simp));clear hb2 hbb;rw[HP.o]at HX;clear HLK';go_wp2;go_roundw
      case rel=>exact⟨k+1,_,_,by omega,by go_num,rfl,HX,HB2.o,HM2⟩
      case measure=>simp[intOf];omega
  ·obtain rfl:k=ts.length:=by omega
   have hL:=Mw.run_len HM.o Tryz.underlying218 3;have HX:=aA (HE.o.trans (zjl (Nat.le_refl _) m g));rw[show(lvL m).length=m.length by simp[lvL]]at hL;generalize m.length=q at *;clear hb;go_wp2_with (simp only[hL])
   go_ret
   exact⟨aG HX.o.symm,HB.o⟩
def isT (z:Int):Bool:=decide (0<=z)
def zbo (G:Gm.Gr) (z:Int):Bool:=!Gm.has G z
theorem zfA (A:Option Addr) (c B:Nat) (l:List Int) (w:World) (hr:RdI w B A l) (hB:B<=w.heap.size) (hlen:(l.length:Int)<=9223372036854775807) :
  Calls Tryz.prog 150 #[.slice A l.length c,.func (Fn.func 184) #[] #[]] w fun e w'=>∃n:Int,e=.returned (.int .i64 n)/\decide (0<=n)=l.any isT/\Below w.heap.size w w':=by
 have HT:=aA hr;have HB0:=aA (Below.refl w.heap.size w);clear hr
 go_enter Tryz.func150,Tryz.ntmps150
 go_wp2;go_loopw [8] (fun vi wr=>∃(k:Nat),k<=l.length/\vi=.int .i64 k/\Hid (zeq l (fun z=>!isT z) k)/\Below w.heap.size w wr) (fun vi _=>l.length-(intOf vi).toNat)
 case atStart=>exact⟨0,Nat.zero_le _,rfl,aA (zeq.zero _ _),HB0.o⟩
 case round =>
  obtain⟨k,hk,rfl,HA,hb⟩:=hrel;have HB:=aA hb;by_cases hlt:k<l.length
  ·obtain⟨g,o,rfl,hgb,hc⟩:=HT.o (by omega);have k0:=(hb.cell (p:=⟨g,o+k,none⟩) (Nat.lt_of_lt_of_le hgb hB)).trans (hc k hlt);rw[L.gd_lt hlt]at k0;have HC:=aA (fun(x:World) (_:Below w.heap.size w x)=>(zcy l[k] x).mono (fun e w' h=>⟨h.1,by rw[h.2];exact Below.refl _ _⟩:∀e w',_->(e=.returned (.bool (isT l[k]))/\Below x.heap.size x w')));have HN:=aA (fun h=>HA.o.next hlt h);have HY:=aA (fun(h:isT l[k]=true)=>(List.any_eq_true.2 ⟨_,List.getElem_mem hlt,h⟩:l.any isT=true));clear hb hc;obtain⟨z,qz⟩:∃z,z=l[k]:=⟨_,rfl⟩
   rw[<-qz]at k0 HC HN HY;clear qz;cases q:isT z
   ·have HX:=aA (HN.o (by simp only[q];rfl));rw[q]at HC;clear q HN HY;go_wp2_with fail
    refine(HC.o _ HB.o).mono ?_;rintro _ w2 ⟨rfl,hb2⟩;have HB2:=aA (HB.o.trans (hb2.mono HB.o.size));clear hb2;go_wp2;go_roundw
    case rel=>exact⟨k+1,by omega,by go_num,HX,HB2.o⟩
    case measure=>simp[intOf];omega
   ·have HX:=aA (HY.o q);rw[q]at HC;clear q HN HY;go_wp2_with fail
    refine(HC.o _ HB.o).mono ?_;rintro _ w2 ⟨rfl,hb2⟩;have HB2:=aA (HB.o.trans (hb2.mono HB.o.size));clear hb2;go_wp2;go_ret
    exact⟨k,rfl,by rw[HX.o];simp,HB2.o⟩
  ·obtain rfl:k=l.length:=by omega
   have HX:Hid (l.any isT=false):=aA (by
    rw[List.any_eq_false];intro z hz;obtain⟨i,hi,rfl⟩:=List.getElem_of_mem hz
    have:=HA.o i hi hi
    simpa using this)
   clear hb;go_wp2;go_ret
   exact⟨-1,rfl,by rw[HX.o];rfl,HB.o⟩
theorem zc3 (A:Option Addr) (c B:Nat) (l:List Int) (w:World) (hr:RdI w B A l) (hB:B<=w.heap.size) (hlen:(l.length:Int)<=9223372036854775807) :
  Calls Tryz.prog 114 #[.slice A l.length c,.func (Fn.func 184) #[] #[]] w fun e w'=>e=.returned (.bool (l.any isT))/\Below w.heap.size w w':=by
 have HI:=aA (zfA A c B l w hr hB hlen);clear hr hlen
 go_enter Tryz.func114,Tryz.ntmps114
 go_wp2_with fail
 refine HI.o.mono ?_;rintro _ w2 ⟨n,rfl,hn,hb⟩;have HN:=aA hn;have HB:=aA hb;clear hn hb;go_wp2;go_ret
 exact⟨aG HN.o,HB.o⟩
theorem zfB (v:Value) (G:Gm.Gr) (B gb:Nat) (z:Int) (a:Array Value) (hv:v=.agg a) (hz:Gm.In z) (w:World) (hg:aU w B v G) (hb:w.heap[gb]?=some (.cells a 26 (0,0))) :
  Calls Tryz.prog 183 #[.int .i64 z,.pointer (some ⟨gb,0,none⟩)] w fun e w'=>e=.returned (.bool (zbo G z))/\Below w.heap.size w w':=by
 have HH:=aA (zeh v G B z hz w hg);obtain⟨AT,cT,AN,cN,AR,cR,rfl,_⟩:=hg;injection hv with hv;subst hv;have c0:=cell_of_row w gb 0 _ _ _ hb;have c1:=cell_of_row w gb 1 _ _ _ hb;have c2:=cell_of_row w gb 2 _ _ _ hb;have c3:=cell_of_row w gb 3 _ _ _ hb;clear hb hz
 go_enter Tryz.func183,Tryz.ntmps183
 go_wp2_with fail
 refine HH.o.mono ?_;rintro _ w2 ⟨rfl,hb⟩;have HB:=aA hb;clear hb;go_wp2;go_ret
 exact⟨rfl,HB.o⟩
theorem zgU (A:Option Addr) (c B:Nat) (l:List Int) (w:World) (G:Gm.Gr) (gb B2:Nat) (a:Array Value) (hin:∀z∈l,Gm.In z) (hg:∀x:World,Below w.heap.size w x->aU x B2 (.agg a) G) (hgb:∀x:World,Below w.heap.size w x->x.heap[gb]?=some (.cells a 26 (0,0))) (hr:RdI w B A l) (hB:B<=w.heap.size) (hlen:(l.length:Int)<=9223372036854775807) :
  Calls Tryz.prog 150 #[.slice A l.length c,.func (Fn.func 183) #[] #[.pointer (some ⟨gb,0,none⟩)]] w fun e w'=>∃n:Int,e=.returned (.int .i64 n)/\decide (0<=n)=l.any (zbo G)/\Below w.heap.size w w':=by
 have HT:=aA hr;have HB0:=aA (Below.refl w.heap.size w);have HIN:=aA hin;have HG:=aA hg;have HGB:=aA hgb;clear hin hg hgb;clear hr
 go_enter Tryz.func150,Tryz.ntmps150
 go_wp2;go_loopw [8] (fun vi wr=>∃(k:Nat),k<=l.length/\vi=.int .i64 k/\Hid (zeq l (fun z=>!(zbo G) z) k)/\Below w.heap.size w wr) (fun vi _=>l.length-(intOf vi).toNat)
 case atStart=>exact⟨0,Nat.zero_le _,rfl,aA (zeq.zero _ _),HB0.o⟩
 case round =>
  obtain⟨k,hk,rfl,HA,hb⟩:=hrel;have HB:=aA hb;by_cases hlt:k<l.length
  ·obtain⟨g,o,rfl,hgb,hc⟩:=HT.o (by omega);have k0:=(hb.cell (p:=⟨g,o+k,none⟩) (Nat.lt_of_lt_of_le hgb hB)).trans (hc k hlt);rw[L.gd_lt hlt]at k0;have HC:=aA (fun(x:World) (h:Below w.heap.size w x)=>zfB (.agg a) G B2 gb l[k] a rfl (HIN.o _ (List.getElem_mem hlt)) x (HG.o x h) (HGB.o x h));have HN:=aA (fun h=>HA.o.next hlt h);have HY:=aA (fun(h:(zbo G) l[k]=true)=>(List.any_eq_true.2 ⟨_,List.getElem_mem hlt,h⟩:l.any (zbo G)=true));clear hb hc;obtain⟨z,qz⟩:∃z,z=l[k]:=⟨_,rfl⟩
   rw[<-qz]at k0 HC HN HY;clear qz;cases q:(zbo G) z
   ·have HX:=aA (HN.o (by simp only[q];rfl));rw[q]at HC;clear q HN HY;go_wp2_with fail
    refine(HC.o _ HB.o).mono ?_;rintro _ w2 ⟨rfl,hb2⟩;have HB2:=aA (HB.o.trans (hb2.mono HB.o.size));clear hb2;go_wp2;go_roundw
    case rel=>exact⟨k+1,by omega,by go_num,HX,HB2.o⟩
    case measure=>simp[intOf];omega
   ·have HX:=aA (HY.o q);rw[q]at HC;clear q HN HY;go_wp2_with fail
    refine(HC.o _ HB.o).mono ?_;rintro _ w2 ⟨rfl,hb2⟩;have HB2:=aA (HB.o.trans (hb2.mono HB.o.size));clear hb2;go_wp2;go_ret
    exact⟨k,rfl,by rw[HX.o];simp,HB2.o⟩
  ·obtain rfl:k=l.length:=by omega
   have HX:Hid (l.any (zbo G)=false):=aA (by
    rw[List.any_eq_false];intro z hz;obtain⟨i,hi,rfl⟩:=List.getElem_of_mem hz
    have:=HA.o i hi hi
    simpa using this)
   clear hb;go_wp2;go_ret
   exact⟨-1,rfl,by rw[HX.o];rfl,HB.o⟩
theorem zdL (A:Option Addr) (c B:Nat) (l:List Int) (w:World) (G:Gm.Gr) (gb B2:Nat) (a:Array Value) (hin:∀z∈l,Gm.In z) (hg:∀x:World,Below w.heap.size w x->aU x B2 (.agg a) G) (hgb:∀x:World,Below w.heap.size w x->x.heap[gb]?=some (.cells a 26 (0,0))) (hr:RdI w B A l) (hB:B<=w.heap.size) (hlen:(l.length:Int)<=9223372036854775807) :
  Calls Tryz.prog 114 #[.slice A l.length c,.func (Fn.func 183) #[] #[.pointer (some ⟨gb,0,none⟩)]] w fun e w'=>e=.returned (.bool (l.any (zbo G)))/\Below w.heap.size w w':=by
 have HI:=aA (zgU A c B l w G gb B2 a hin hg hgb hr hB hlen);clear hr hlen hin hg hgb
 go_enter Tryz.func114,Tryz.ntmps114
 go_wp2_with fail
 refine HI.o.mono ?_;rintro _ w2 ⟨n,rfl,hn,hb⟩;have HN:=aA hn;have HB:=aA hb;clear hn hb;go_wp2;go_ret
 exact⟨aG HN.o,HB.o⟩
def ruB (G:Gm.Gr) (x:Gm.Rl):Bool:=decide (x.r.length<=6) && !x.r.any (zbo G)&&(if x.p = -1 then !x.r.any isT else isT x.p&&Gm.has G x.p)
theorem zcQ (v:Value) (G:Gm.Gr) (B:Nat) (x:Gm.Rl) (A:Option Addr) (c:Nat) (w:World) (hg:aU w B v G) (hr:RdI w B A x.r) (hx:∀z∈x.r,Gm.In z) (hp:Gm.In x.p) (hB:B<=w.heap.size) :
  Calls Tryz.prog 160 #[v,.agg #[.int .i64 x.l,.slice A x.r.length c,.int .i64 x.p]] w fun e w'=>e=.returned (.bool (ruB G x))/\Below w.heap.size w w':=by
 have HG:=aA hg;obtain⟨AT,cT,AN,cN,AR,cR,rfl,_⟩:=hg;have HB0:=aA ((One.start w #[.slice AT G.ts.length cT,.slice AN G.ns.length cN,.slice AR G.rs.length cR,.int .i64 G.st]).alloc (.cells #[.int .i64 x.l,.slice A x.r.length c,.int .i64 x.p] 48))
 have HK0:Hid (((w.alloc (.cells #[.slice AT G.ts.length cT,.slice AN G.ns.length cN,.slice AR G.rs.length cR,.int .i64 G.st] 26)).alloc (.cells #[.int .i64 x.l,.slice A x.r.length c,.int .i64 x.p] 48)).heap[w.heap.size+1]?=some (.cells #[.int .i64 x.l,.slice A x.r.length c,.int .i64 x.p] 48 (0,0))):=aA (by
  have:=heap_alloc_new (w.alloc (.cells #[.slice AT G.ts.length cT,.slice AN G.ns.length cN,.slice AR G.rs.length cR,.int .i64 G.st] 26)) (.cells #[.int .i64 x.l,.slice A x.r.length c,.int .i64 x.p] 48)
  simpa using this)
 by_cases h6:6<x.r.length
 ·have HX:Hid (ruB G x=false):=aA (by unfold ruB;rw[decide_eq_false (show ¬x.r.length<=6 by omega)];rfl);rw[HX.o];clear hr hx hp
  go_enter Tryz.func160,Tryz.ntmps160
  go_wp2;go_ret
  exact⟨rfl,HB0.o.below⟩
 have HOB:=aA (fun(y:World) (h:One w #[.slice AT G.ts.length cT,.slice AN G.ns.length cN,.slice AR G.rs.length cR,.int .i64 G.st] y)=>(Below.block h w.heap.size (by omega)).trans (heap_alloc_new w _));have HCF:=aA (fun(y:World) (h:One w #[.slice AT G.ts.length cT,.slice AN G.ns.length cN,.slice AR G.rs.length cR,.int .i64 G.st] y)=>zdL A c B x.r y G w.heap.size B _ hx (fun z hz=>HG.o.below (h.on hz).below hB) (fun z hz=>HOB.o _ (h.on hz)) (hr.keep fun g o hg=>h.below.cell (p:=⟨g,o,none⟩) (Nat.lt_of_lt_of_le hg hB)) (Nat.le_trans hB h.below.size) (by omega));have HCT:=aA (fun(y:World) (h:One w #[.slice AT G.ts.length cT,.slice AN G.ns.length cN,.slice AR G.rs.length cR,.int .i64 G.st] y)=>zc3 A c B x.r y (hr.keep fun g o hg=>h.below.cell (p:=⟨g,o,none⟩) (Nat.lt_of_lt_of_le hg hB)) (Nat.le_trans hB h.below.size) (by omega));have HIT:=aA (fun y=>zcy x.p y);have HHS:=aA (fun(y:World) (h:One w #[.slice AT G.ts.length cT,.slice AN G.ns.length cN,.slice AR G.rs.length cR,.int .i64 G.st] y)=>zeh _ G B x.p hp y (HG.o.below h.below hB));have HRU:Hid (ruB G x=(!x.r.any (zbo G)&&(if x.p = -1 then !x.r.any isT else isT x.p&&Gm.has G x.p))):=aA (by unfold ruB;rw[decide_eq_true (show x.r.length<=6 by omega)];rfl);clear hr hx hp HG;cases q1:x.r.any (zbo G)
 case true =>
  have HX:Hid (ruB G x=false):=aA (by rw[HRU.o,q1];rfl);rw[q1]at HCF;rw[HX.o];clear q1 HRU
  go_enter Tryz.func160,Tryz.ntmps160
  go_wp2_with fail
  refine(HCF.o _ HB0.o).mono ?_;rintro _ w2 ⟨rfl,hb⟩;have HB2:=aA (HB0.o.on hb);clear hb;go_wp2;go_ret
  exact⟨rfl,HB2.o.below⟩
 rw[q1]at HCF;have HR2:Hid (ruB G x=(if x.p = -1 then !x.r.any isT else isT x.p&&Gm.has G x.p)):=aA (by rw[HRU.o,q1];rfl);clear q1 HRU;by_cases h1:x.p = -1
 ·have HX:=aA (HR2.o.trans (if_pos h1));have e1:(x.p == -1)=true:=beq_iff_eq.2 h1;rw[HX.o];generalize x.r.any isT=b at *;clear h1 HIT HHS HR2 HX
  go_enter Tryz.func160,Tryz.ntmps160
  go_wp2_with fail
  refine(HCF.o _ HB0.o).mono ?_;rintro _ w2 ⟨rfl,hb⟩;have HB2:=aA (HB0.o.on hb);have hbb:=(hb.block (w.heap.size+1) (by simp)).trans HK0.o;have d1:=cell_of_row w2 _ 1 _ _ _ hbb;have d2:=cell_of_row w2 _ 2 _ _ _ hbb;have hz:w.heap.size+1<w2.heap.size:=(Array.getElem?_eq_some_iff.1 hbb).1;clear hb hbb;go_wp2_with fail
  refine(HCT.o _ HB2.o).mono ?_;rintro _ w3 ⟨rfl,hb⟩;have HB3:=aA (HB2.o.on hb);clear hb;go_wp2;go_ret
  exact⟨rfl,HB3.o.below⟩
 ·have HX:=aA (HR2.o.trans (if_neg h1));have e1:(x.p == -1)=false:=beq_eq_false_iff_ne.2 h1;rw[HX.o];unfold isT;clear h1 HCT HR2 HX;cases q2:decide (0<=x.p)
  ·rw[q2]at HIT;clear q2 HHS
   go_enter Tryz.func160,Tryz.ntmps160
   go_wp2_with fail
   refine(HCF.o _ HB0.o).mono ?_;rintro _ w2 ⟨rfl,hb⟩;have HB2:=aA (HB0.o.on hb);have hbb:=(hb.block (w.heap.size+1) (by simp)).trans HK0.o;have d1:=cell_of_row w2 _ 1 _ _ _ hbb;have d2:=cell_of_row w2 _ 2 _ _ _ hbb;have hz:w.heap.size+1<w2.heap.size:=(Array.getElem?_eq_some_iff.1 hbb).1;clear hb hbb;go_wp2_with fail
   refine(HIT.o _).mono ?_;rintro _ _ ⟨rfl,rfl⟩;go_wp2;go_ret
   exact⟨rfl,HB2.o.below⟩
  ·rw[q2]at HIT;clear q2;generalize Gm.has G x.p=b at *
   go_enter Tryz.func160,Tryz.ntmps160
   go_wp2_with fail
   refine(HCF.o _ HB0.o).mono ?_;rintro _ w2 ⟨rfl,hb⟩;have HB2:=aA (HB0.o.on hb);have hbb:=(hb.block (w.heap.size+1) (by simp)).trans HK0.o;have d1:=cell_of_row w2 _ 1 _ _ _ hbb;have d2:=cell_of_row w2 _ 2 _ _ _ hbb;have hz:w.heap.size+1<w2.heap.size:=(Array.getElem?_eq_some_iff.1 hbb).1;have q0:=HB2.o.c 0 _ rfl;have q1:=HB2.o.c 1 _ rfl;have q2:=HB2.o.c 2 _ rfl;have q3:=HB2.o.c 3 _ rfl;clear hb hbb;go_wp2_with fail
   refine(HIT.o _).mono ?_;rintro _ w5 ⟨rfl,hw5⟩;subst hw5;go_wp2_with fail
   refine(HHS.o _ HB2.o).mono ?_;rintro _ w3 ⟨rfl,hb⟩;have HB3:=aA (HB2.o.on hb);clear hb;go_wp2;go_ret
   exact⟨aG (by simp),HB3.o.below⟩
def rrF (G:Gm.Gr):List Gm.Rl->Int->Bool
 | [],n=>n==G.ns.length
 | x::r,n=>if x.l<0\/n<x.l\/ruB G x=false then false else rrF G r (max n (x.l+1))
theorem zhO {G:Gm.Gr} {rs:List Gm.Rl} {k:Nat} (h:k<rs.length) (n:Int):rrF G (rs.drop k) n=if rs[k].l<0\/n<rs[k].l\/ruB G rs[k]=false then false else rrF G (rs.drop (k+1)) (max n (rs[k].l+1)):=by
 rw[List.drop_eq_getElem_cons h,rrF]
theorem zji {G:Gm.Gr} {rs:List Gm.Rl} {k:Nat} (h:rs.length<=k) (n:Int):rrF G (rs.drop k) n=(n==(G.ns.length:Int)):=by
 rw[List.drop_eq_nil_of_le h,rrF]
def rrB (G:Gm.Gr):Bool:=decide (G.rs.length<=40)&&rrF G G.rs 0
theorem zcc (v:Value) (G:Gm.Gr) (B:Nat) (w:World) (hg:aU w B v G) (hf:Gm.Fit G) (hB:B<=w.heap.size) :
  Calls Tryz.prog 135 #[v] w fun e w'=>e=.returned (.bool (rrB G))/\Below w.heap.size w w':=by
 have HG:=aA hg;obtain⟨AT,cT,AN,cN,AR,cR,rfl,⟨hlT,hmT⟩,⟨hlN,hmN⟩,⟨hlR,hmR⟩,_,_,ht⟩:=hg;have HT:=aA ht;have HF:=aA hf;have HS0:=aA (One.start w #[.slice AT G.ts.length cT,.slice AN G.ns.length cN,.slice AR G.rs.length cR,.int .i64 G.st]);have hlenN:(G.ns.length:Int)<=9223372036854775807:=by omega
 clear ht hf;by_cases h40:40<G.rs.length
 ·have HX:Hid (rrB G=false):=aA (by unfold rrB;rw[decide_eq_false (show ¬G.rs.length<=40 by omega)];rfl);rw[HX.o]
  go_enter Tryz.func135,Tryz.ntmps135
  go_wp2;go_ret
  exact⟨rfl,HS0.o.below⟩
 have HRR:Hid (rrB G=rrF G (G.rs.drop 0) 0):=aA (by unfold rrB;rw[decide_eq_true (show G.rs.length<=40 by omega)];rfl)
 go_enter Tryz.func135,Tryz.ntmps135
 go_wp2;go_loopw [3,13] (fun vt vi wr=>∃(k:Nat) (z:Int),k<=G.rs.length/\vi=.int .i64 k/\vt=.int .i64 z/\(0<=z/\z<=100+k)/\Hid (rrB G=rrF G (G.rs.drop k) z)/\One w #[.slice AT G.ts.length cT,.slice AN G.ns.length cN,.slice AR G.rs.length cR,.int .i64 G.st] wr) (fun _ vi _=>G.rs.length-(intOf vi).toNat)
 case atStart=>exact⟨0,0,Nat.zero_le _,rfl,rfl,by omega,HRR,HS0.o⟩
 case round =>
  obtain⟨k,z,hk,rfl,rfl,hzz,HE,hb⟩:=hrel;have HB:=aA hb;have hz:w.heap.size<wr.heap.size:=hb.size;have hbw:=hb.below;have q0:=hb.c 0 _ rfl;have q1:=hb.c 1 _ rfl;have q2:=hb.c 2 _ rfl;have q3:=hb.c 3 _ rfl;clear hb;by_cases hlt:k<G.rs.length
  ·obtain⟨g,o,rfl,hgb,hc⟩:=HT.o (by omega);obtain⟨k0,⟨A',c',k1,_,_,hri⟩,k2⟩:=hc k hlt;have k0:=(hbw.cell (p:=⟨g,o+k*3,none⟩) (Nat.lt_of_lt_of_le hgb hB)).trans k0;have k1:=(hbw.cell (p:=⟨g,o+k*3+1,none⟩) (Nat.lt_of_lt_of_le hgb hB)).trans k1;have k2:=(hbw.cell (p:=⟨g,o+k*3+2,none⟩) (Nat.lt_of_lt_of_le hgb hB)).trans k2;have hgs:g<wr.heap.size:=by omega
   have hft:=HF.o.r _ (List.getElem_mem hlt);have HRU:=aA (fun(y:World) (h:One w #[.slice AT G.ts.length cT,.slice AN G.ns.length cN,.slice (some ⟨g,o,none⟩) G.rs.length cR,.int .i64 G.st] y)=>zcQ _ G B G.rs[k] A' c' y (HG.o.below h.below hB) (hri.keep fun g o hg=>h.below.cell (p:=⟨g,o,none⟩) (Nat.lt_of_lt_of_le hg hB)) hft.2.2 hft.2.1 (Nat.le_trans hB h.below.size));have HN:=aA (HE.o.trans (zhO hlt z));have hil:=hft.1;unfold Gm.In at hil;clear hc hbw hft hri;generalize G.rs[k]=x at *;by_cases c1:x.l<0
   ·have HX:Hid (rrB G=false):=aA (HN.o.trans (if_pos (.inl c1)));go_wp2;go_ret
    exact⟨aG HX.o.symm,(HB.o.alloc _).below⟩
   have c1':=Int.not_lt.1 c1;by_cases c2:z<x.l
   ·have HX:Hid (rrB G=false):=aA (HN.o.trans (if_pos (.inr (.inl c2))));go_wp2;go_ret
    exact⟨aG HX.o.symm,(HB.o.alloc _).below⟩
   have c2':=Int.not_lt.1 c2;cases c3:ruB G x
   ·have HX:Hid (rrB G=false):=aA (HN.o.trans (if_pos (.inr (.inr c3))));rw[c3]at HRU;clear c3 c1 c2;go_wp2_with fail
    refine(HRU.o _ (HB.o.alloc _)).mono ?_;rintro _ w4 ⟨rfl,hb4⟩;have HB4:=aA ((HB.o.alloc _).on hb4);clear hb4;go_wp2;go_ret
    exact⟨aG HX.o.symm,HB4.o.below⟩
   ·have HX:=aA (HN.o.trans (if_neg (by rw[c3];simp;omega)));rw[c3]at HRU;clear c3 c1 c2;go_wp2_with fail
    refine(HRU.o _ (HB.o.alloc _)).mono ?_;rintro _ w4 ⟨rfl,hb4⟩;have HB4:=aA ((HB.o.alloc _).on hb4);have hbb:=(hb4.block wr.heap.size (by simp)).trans (heap_alloc_new wr _);have hz4:wr.heap.size<w4.heap.size:=(Array.getElem?_eq_some_iff.1 hbb).1;have f0:=cell_of_row w4 _ 0 _ _ _ hbb;clear hb4 hbb;go_wp2;go_roundw
    case rel=>exact⟨k+1,max z (x.l+1),by omega,by go_num,rfl,by omega,HX,HB4.o⟩
    case measure=>simp[intOf];omega
  ·obtain rfl:k=G.rs.length:=by omega
   have HX:=aA (HE.o.trans (zji (Nat.le_refl _) z));clear hbw;go_wp2;go_ret
   exact⟨aG HX.o.symm,HB.o.below⟩
def zbJ (G:Gm.Gr):Bool:=rnB G&&rlF G.ts [] 0&&rrB G&&decide (0<=G.st)&&decide (G.st<G.ns.length)
theorem zfD (v:Value) (G:Gm.Gr) (B:Nat) (w:World) (hg:aU w B v G) (hf:Gm.Fit G) (hB:B<=w.heap.size) :
  Calls Tryz.prog 96 #[v] w fun e w'=>e=.returned (.bool (zbJ G))/\Below w.heap.size w w':=by
 have HG:=aA hg;have HF:=aA hf;obtain⟨AT,cT,AN,cN,AR,cR,rfl,⟨hlT,hmT⟩,⟨hlN,hmN⟩,⟨hlR,hmR⟩,htm,_,_⟩:=hg;have HS0:=aA (One.start w #[.slice AT G.ts.length cT,.slice AN G.ns.length cN,.slice AR G.rs.length cR,.int .i64 G.st]);have H1:=aA (fun(x:World) (h:One w #[.slice AT G.ts.length cT,.slice AN G.ns.length cN,.slice AR G.rs.length cR,.int .i64 G.st] x)=>zcd _ G B x (HG.o.below h.below hB) HF.o (Nat.le_trans hB h.below.size));have H2:=aA (fun(x:World) (h:One w #[.slice AT G.ts.length cT,.slice AN G.ns.length cN,.slice AR G.rs.length cR,.int .i64 G.st] x)=>zbU AT cT B G.ts x (htm.keep fun g o hg=>h.below.cell (p:=⟨g,o,none⟩) (Nat.lt_of_lt_of_le hg hB)) HF.o.t (Nat.le_trans hB h.below.size) (by omega));have H3:=aA (fun(x:World) (h:One w #[.slice AT G.ts.length cT,.slice AN G.ns.length cN,.slice AR G.rs.length cR,.int .i64 G.st] x)=>zcc _ G B x (HG.o.below h.below hB) HF.o (Nat.le_trans hB h.below.size));have hlenN:(G.ns.length:Int)<=9223372036854775807:=by omega
 unfold zbJ;clear hf htm HG HF hlT hmT hlN hmN hlR hmR hB;cases p1:rnB G
 ·rw[p1]at H1;clear p1 H2 H3
  go_enter Tryz.func96,Tryz.ntmps96
  go_wp2_with fail
  refine(H1.o _ HS0.o).mono ?_;rintro _ w2 ⟨rfl,hb⟩;have HB2:=aA (HS0.o.on hb);clear hb;go_wp2;go_ret
  exact⟨rfl,HB2.o.below⟩
 rw[p1]at H1;clear p1;cases p2:rlF G.ts [] 0
 ·rw[p2]at H2;clear p2 H3
  go_enter Tryz.func96,Tryz.ntmps96
  go_wp2_with fail
  refine(H1.o _ HS0.o).mono ?_;rintro _ w2 ⟨rfl,hb⟩;have HB2:=aA (HS0.o.on hb);have q0:=HB2.o.c 0 _ rfl;have z2:w.heap.size<w2.heap.size:=HB2.o.size;clear hb;go_wp2_with fail
  refine(H2.o _ HB2.o).mono ?_;rintro _ w3 ⟨rfl,hb⟩;have HB3:=aA (HB2.o.on hb);clear hb;go_wp2;go_ret
  exact⟨rfl,HB3.o.below⟩
 rw[p2]at H2;clear p2;cases p3:rrB G
 ·rw[p3]at H3;clear p3
  go_enter Tryz.func96,Tryz.ntmps96
  go_wp2_with fail
  refine(H1.o _ HS0.o).mono ?_;rintro _ w2 ⟨rfl,hb⟩;have HB2:=aA (HS0.o.on hb);have q0:=HB2.o.c 0 _ rfl;have z2:w.heap.size<w2.heap.size:=HB2.o.size;clear hb;go_wp2_with fail
  refine(H2.o _ HB2.o).mono ?_;rintro _ w3 ⟨rfl,hb⟩;have HB3:=aA (HB2.o.on hb);have r0:=HB3.o.c 0 _ rfl;have r1:=HB3.o.c 1 _ rfl;have r2:=HB3.o.c 2 _ rfl;have r3:=HB3.o.c 3 _ rfl;have z3:w.heap.size<w3.heap.size:=HB3.o.size;clear hb;go_wp2_with fail
  refine(H3.o _ HB3.o).mono ?_;rintro _ w4 ⟨rfl,hb⟩;have HB4:=aA (HB3.o.on hb);clear hb;go_wp2;go_ret
  exact⟨rfl,HB4.o.below⟩
 rw[p3]at H3;clear p3;by_cases h4:0<=G.st
 ·rw[decide_eq_true h4]
  go_enter Tryz.func96,Tryz.ntmps96
  go_wp2_with fail
  refine(H1.o _ HS0.o).mono ?_;rintro _ w2 ⟨rfl,hb⟩;have HB2:=aA (HS0.o.on hb);have q0:=HB2.o.c 0 _ rfl;have z2:w.heap.size<w2.heap.size:=HB2.o.size;clear hb;go_wp2_with fail
  refine(H2.o _ HB2.o).mono ?_;rintro _ w3 ⟨rfl,hb⟩;have HB3:=aA (HB2.o.on hb);have r0:=HB3.o.c 0 _ rfl;have r1:=HB3.o.c 1 _ rfl;have r2:=HB3.o.c 2 _ rfl;have r3:=HB3.o.c 3 _ rfl;have z3:w.heap.size<w3.heap.size:=HB3.o.size;clear hb;go_wp2_with fail
  refine(H3.o _ HB3.o).mono ?_;rintro _ w4 ⟨rfl,hb⟩;have HB4:=aA (HB3.o.on hb);have s1:=HB4.o.c 1 _ rfl;have s3:=HB4.o.c 3 _ rfl;have z4:w.heap.size<w4.heap.size:=HB4.o.size;clear hb;go_wp2;go_ret
  exact⟨aG (by simp),HB4.o.below⟩
 ·rw[decide_eq_false h4];have h4':=Int.not_le.1 h4;clear h4
  go_enter Tryz.func96,Tryz.ntmps96
  go_wp2_with fail
  refine(H1.o _ HS0.o).mono ?_;rintro _ w2 ⟨rfl,hb⟩;have HB2:=aA (HS0.o.on hb);have q0:=HB2.o.c 0 _ rfl;have z2:w.heap.size<w2.heap.size:=HB2.o.size;clear hb;go_wp2_with fail
  refine(H2.o _ HB2.o).mono ?_;rintro _ w3 ⟨rfl,hb⟩;have HB3:=aA (HB2.o.on hb);have r0:=HB3.o.c 0 _ rfl;have r1:=HB3.o.c 1 _ rfl;have r2:=HB3.o.c 2 _ rfl;have r3:=HB3.o.c 3 _ rfl;have z3:w.heap.size<w3.heap.size:=HB3.o.size;clear hb;go_wp2_with fail
  refine(H3.o _ HB3.o).mono ?_;rintro _ w4 ⟨rfl,hb⟩;have HB4:=aA (HB3.o.on hb);have s1:=HB4.o.c 1 _ rfl;have s3:=HB4.o.c 3 _ rfl;have z4:w.heap.size<w4.heap.size:=HB4.o.size;clear hb;go_wp2;go_ret
  exact⟨rfl,HB4.o.below⟩
def dropA (A:Option Addr) (c k:Nat):Option Addr:=if c=k then A else A.map fun x=>x.add k
theorem RdB.dropA {w:World} {B c:Nat} {A:Option Addr} {l:List Int} (h:RdB w B A l) (hc:l.length<=c) (k:Nat):RdB w B (dropA A c k) (l.drop k):=by
 intro hn;rw[List.length_drop]at hn;obtain⟨g,o,rfl,hg,hcl⟩:=h (by omega);refine⟨g,o+k,?_,hg,fun j hj=>?_⟩
 ·have e:((⟨g,o,none⟩:Addr).add k)=⟨g,o+k,none⟩:=by unfold Addr.add;by_cases h0:k=0 <;> simp[h0]
  unfold Go.Proofs.YtcmhaemaophplaaGreat.dropA;rw[if_neg (by omega),Option.map_some,e]
 ·rw[List.length_drop]at hj;rw[show o+k+j=o+(k+j) by omega,hcl (k+j) (by omega),L.gd_lt (by omega:k+j<l.length),L.gd_lt (by rw[List.length_drop];exact hj),List.getElem_drop]
def quoV (r:Option Nat):Value:=match r with|none=>.tuple #[.int .i64 0,.int .i64 4]|some m=>.tuple #[.int .i64 ((m+1:Nat):Int),.int .i64 0]
theorem zhH (w:World) (A:Option Addr) (c n j:Nat) (h2:j<=c):(Instr.sliceAt 65 (.slice A n c) none (some (.int .i64 j)) none).run Tryz.prog w=.ok (.slice A j c) w:=by
 rw[run_sliceAt_slice _ _ _ _ _ _ (by kernel_rfl),run_slice_h _ _ _ _ _ (by kernel_rfl) .i64 (j:Int) (by omega) (by omega)];have hs:(sizeOf (Tryz.prog.elem 65)).run Tryz.prog w=.ok 1 w:=by kernel_rfl
 rw[hs]
 have e:∀A:Option Addr,A.map (fun x=>x.add 0)=A:=fun A=>by
  cases A with
  | none=>rfl
  | some x=>simp[Addr.add]
 simp[Result.andThen,sliced,e]
end Go.Proofs.YtcmhaemaophplaaGreat
namespace Go.Proofs.YtcmhaemaophplaaGreat.Fl
open Ieee
def fl (n:Int):Nat:=floatOfInt .f64 n
def St (d:Datum) (n k:Nat):Prop:=d=.number false (n*2 ^ k) (-(k:Int))
theorem lp:double.leastPlace = -1074:=by decide
theorem fb:double.fractionBits=52:=rfl
end Go.Proofs.YtcmhaemaophplaaGreat.Fl
namespace Go.Proofs.YtcmhaemaophplaaGreat
set_option maxRecDepth 100000
set_option maxHeartbeats 40000000
open Go.RowKit
def pl (l c:Int):Value:=.complex .f64 (Fl.fl l) (Fl.fl c)
def okN (n:Int):Prop:=1<=n/\n<=1073741824
def zms (l c m d:Int):Bool:=decide (l<m)||(decide (l=m)&&decide (c<d))
theorem zjj (l c:Int) (w:World) (hl:okN l) (hc:okN c) :
  Calls Tryz.prog 125 #[.int .i64 l,.int .i64 c] w fun e w'=>e=.returned (.complex .f64 (Fl.fl l) (Fl.fl c))/\w=w':=by
 have C2:∀n w,(convert 3 216 (.int .i64 n)).run Tryz.prog w=.ok (.float .f64 (Fl.fl n)) w:=fun n w=>run_convert_int_float w _ _ .i64 .f64 _ (by rw[Tryz.underlying3];rfl) Tryz.underlying216;obtain⟨h1,h2⟩:=hl;obtain⟨h3,h4⟩:=hc
 go_enter Tryz.func125,Tryz.ntmps125
 go_wp2_with (simp only[C2])
 go_ret
 exact⟨rfl,rfl⟩
namespace Pl
def stp (p:Int×Int) (z:Int):Int×Int:=if z=10 then(p.1+1,1) else(p.1,p.2+1)
def pos (l:List Int):Int×Int:=l.foldl stp (1,1)
theorem pos_snoc (l:List Int) (z:Int):pos (l++[z])=stp (pos l) z:=by unfold pos;rw[List.foldl_append];rfl
theorem pos_next (l:List Int) (k:Nat) (h:k<l.length):pos (l.take (k+1))=stp (pos (l.take k)) (l.getD k 0):=by rw[L.take_snoc l k h,pos_snoc]
theorem pos_bd (l:List Int) (k:Nat) (h:k<=l.length):1<=(pos (l.take k)).1/\(pos (l.take k)).1<=1+k/\1<=(pos (l.take k)).2/\(pos (l.take k)).2<=1+k:=by
 induction k with
 | zero=>simp[pos]
 | succ k ih =>
  have:=ih (by omega)
  rw[pos_next l k (by omega)];unfold stp;split <;> simp only <;> omega
theorem pos_lt (l:List Int) (i k:Nat) (h:i<k) (hk:k<=l.length):zms (pos (l.take i)).1 (pos (l.take i)).2 (pos (l.take k)).1 (pos (l.take k)).2=true:=by
 induction k with
 | zero=>omega
 | succ k ih =>
  rw[pos_next l k (by omega)];by_cases e:i=k
  ·subst e;unfold stp zms;split <;> simp
   all_goals omega
  ·have:=ih (by omega) (by omega)
   unfold zms at this ⊢;unfold stp;simp only[Bool.or_eq_true,Bool.and_eq_true,decide_eq_true_eq]at this ⊢;split <;> simp only <;> omega
end Pl
theorem zcr (A:Option Addr) (c B:Nat) (l:List Int) (i:Nat) (w:World) (hr:RdB w B A l) (hn:l.length<=2000) (hi:i<=l.length) :
  Calls Tryz.prog 87 #[.slice A l.length c,.int .i64 i] w fun e w'=>e=.returned (.complex .f64 (Fl.fl (Pl.pos (l.take i)).1) (Fl.fl (Pl.pos (l.take i)).2))/\w=w':=by
 have hi':¬(l.length:Int)<i:=by omega
 go_enter Tryz.func87,Tryz.ntmps87
 go_wp2
 go_loop [7,5,6] (fun vi vl vc=>∃(k:Nat),k<=i/\vi=.int .i64 k/\vl=.int .i64 (Pl.pos (l.take k)).1/\vc=.int .i64 (Pl.pos (l.take k)).2) (fun vi _ _=>i-(intOf vi).toNat)
 case atStart=>exact⟨0,by omega,rfl,rfl,rfl⟩
 case round =>
  obtain⟨k,hk,rfl,rfl,rfl⟩:=hrel;have hb:=Pl.pos_bd l k (by omega);by_cases hlt:k<i
  ·obtain⟨g,o,rfl,_,hcl⟩:=hr (by omega);have hcell:=hcl k (by omega);have hnx:=aA (Pl.pos_next l k (by omega));have hkl:k<l.length:=by omega
   generalize l.getD k 0=z at *;generalize Pl.pos (l.take k)=p at *;obtain⟨x,y⟩:=p;simp only at hb;obtain⟨b1,b2,b3,b4⟩:=hb;clear hcl;by_cases h10:z=10
   ·subst h10;go_wp2
    go_round
    case rel=>exact⟨k+1,by omega,by go_num,by rw[hnx.o];rfl,by rw[hnx.o];rfl⟩
    case measure=>simp[intOf];omega
   ·have h11:(z==10)=false:=by simpa using h10
    have HN:=aA h10;clear h10;go_wp2
    go_round
    case rel=>exact⟨k+1,by omega,by go_num,by rw[hnx.o];unfold Pl.stp;rw[if_neg HN.o],by rw[hnx.o];unfold Pl.stp;rw[if_neg HN.o]⟩
    case measure=>simp[intOf];omega
  ·obtain rfl:k=i:=by omega
   clear hr;have HS:=aA (fun w=>zjj (Pl.pos (l.take k)).1 (Pl.pos (l.take k)).2 w (by unfold okN;omega) (by unfold okN;omega));clear hb;go_wp2_with fail
   refine(HS.o _).mono ?_;rintro _ w' ⟨rfl,rfl⟩;go_wp2;go_ret
   exact⟨rfl,rfl⟩
namespace Pl
end Pl
theorem zmf:(Tryz.prog.info? 157).map (fun i=>(i.zero,i.size,i.bytes))=some (some (.agg #[.int .i64 0,.string ⟨#[]⟩,.complex .f64 0 0]),3,40):=by kernel_rfl
def a7 (k:Int) (l:List Int):List Int:=if k=1\/k=2 then l else []
def bL:Obj:=.cells #[.int .i64 0,.string ⟨#[]⟩,.complex .f64 0 0] 157
structure Tok where
 k:Int
 t:List Int
 o:Nat
inductive Out where
 | ok:List Tok->Out
 | bad:Nat->Int->Out
def more (acc:List Tok) (k:Nat) (x:T.P3) (l:List Int):List Tok:=if x.1=0 then acc else acc++[⟨x.1,a7 x.1 (l.take x.2.1),k⟩]
def zbp (m:Nat) (x:T.P3):Nat:=if x.1=9 then m+1 else m
def zfl:Nat->List Int->Nat->Nat->List Tok->Out
 | 0,_,_,_,acc=>.ok acc
 | f+1,l,k,m,acc=>if l.length=0\/m=2 then .ok acc else if(T.piece l).2.2≠0 then .bad k (T.piece l).2.2 else zfl f (l.drop (T.piece l).2.1) (k+(T.piece l).2.1) (zbp m (T.piece l)) (more acc k (T.piece l) l)
theorem zeu (f:Nat) (l:List Int) (k m:Nat) (acc:List Tok) (h:l.length=0\/m=2):zfl f l k m acc=.ok acc:=by
 cases f with
 | zero=>rfl
 | succ f=>unfold zfl;rw[if_pos h]
theorem zev (f:Nat) (l:List Int) (k m:Nat) (acc:List Tok) (h:¬(l.length=0\/m=2)) (hb:(T.piece l).2.2≠0):zfl (f+1) l k m acc=.bad k (T.piece l).2.2:=by
 rw[zfl,if_neg h,if_pos hb]
theorem zgc (f:Nat) (l:List Int) (k m:Nat) (acc:List Tok) (h:¬(l.length=0\/m=2)) (hb:(T.piece l).2.2=0):zfl (f+1) l k m acc=zfl f (l.drop (T.piece l).2.1) (k+(T.piece l).2.1) (zbp m (T.piece l)) (more acc k (T.piece l) l):=by
 rw[zfl,if_neg h,if_neg (by simpa using hb)]
def zi8 (l:List Int):Out:=zfl (l.length+1) l 0 0 []
def zaH (L:List Int) (x:Tok):List Value:=[.int .i64 x.k,.string (K.str x.t),.complex .f64 (Fl.fl (Pl.pos (L.take x.o)).1) (Fl.fl (Pl.pos (L.take x.o)).2)]
theorem zf0 (L:List Int) (xs:List Tok) (i j:Nat) (hi:i<xs.length) (hj:j<3):(xs.flatMap (zaH L))[i*3+j]?=(zaH L xs[i])[j]?:=by
 induction xs generalizing i with
 | nil=>simp at hi
 | cons x r ih =>
  rw[List.flatMap_cons];have hl:(zaH L x).length=3:=rfl;cases i with
  | zero=>rw[List.getElem?_append_left (by omega)];simp
  | succ i =>
   rw[List.getElem?_append_right (by omega),hl,show(i+1)*3+j-3=i*3+j by omega]
   simpa using ih i (by simpa using hi)
def bQ (L:List Int) (w:World) (base:Nat) (v:Value) (xs:List Tok):Prop:=w.ownsRow base 157 3 v xs.length (xs.flatMap (zaH L))
theorem bQ.nil (L:List Int) (w:World) (base:Nat):bQ L w base (.slice none 0 0) []:=World.ownsRow_nil w base _ _
theorem bQ.alloc {L:List Int} {w:World} {base:Nat} {v:Value} {xs:List Tok} (h:bQ L w base v xs) (o:Obj):bQ L (w.alloc o) base v xs:=World.ownsRow.alloc h o
theorem bQ.drewN {L:List Int} {w:World} {base:Nat} {v:Value} {xs:List Tok} (h:bQ L w base v xs) (n:Nat):bQ L (w.drewN n) base v xs:=h
theorem bQ.below {L:List Int} {w w':World} {base B:Nat} {v:Value} {xs:List Tok} (h:bQ L w base v xs) (hb:Below B w w') (hB:w.heap.size<=B):bQ L w' base v xs:=by
 refine⟨h.1,?_⟩;rcases h.2 with h0|⟨g,cap,cur,e,hb1,hg,hr⟩
 ·exact .inl h0
 ·exact .inr ⟨g,cap,cur,e,hb1,(hb.block g (Nat.lt_of_lt_of_le (Array.getElem?_eq_some_iff.1 hg).1 hB)).trans hg,hr⟩
theorem bQ.form {L:List Int} {w:World} {base:Nat} {v:Value} {xs:List Tok} (h:bQ L w base v xs):∃A c,v=.slice A xs.length c/\xs.length<=c/\c<=maxLen:=by
 rcases h.2 with⟨rfl,h0⟩|⟨g,cap,cur,rfl,hb,hg,hn,hm,hs,ht⟩
 ·exact⟨none,0,by rw[h0],by omega,by unfold maxLen;omega⟩
 ·exact⟨_,cap,rfl,hn,hm⟩
theorem bQ.addr {L:List Int} {w:World} {base:Nat} {v:Value} {xs:List Tok} (h:bQ L w base v xs) (h0:xs.length≠0):∃g c,v=.slice (some ⟨g,0,none⟩) xs.length c/\xs.length<=c/\c<=maxLen/\base<=g/\g<w.heap.size /\
  ∀i j u,i<xs.length->j<3->(xs[i]?.map (zaH L)).bind (·[j]?)=some u->w.cell? ⟨g,i*3+j,none⟩=some u:=by
 rcases h.2 with⟨_,h1⟩|⟨g,cap,cur,rfl,hb,hg,hn,hm,hs,ht⟩
 ·exact absurd h1 h0
 ·refine⟨g,cap,rfl,hn,hm,hb,(Array.getElem?_eq_some_iff.1 hg).1,fun i j u hi hj hu=>?_⟩;have hx:xs[i]?=some xs[i]:=List.getElem?_eq_getElem hi;rw[hx]at hu;have hc:=World.ownsRow.cells h (g:=g) rfl (i*3+j) u (by rw[zf0 L xs i j hi hj];exact hu);rw[Go.WideShapes.add_plain,Nat.zero_add]at hc;exact hc
theorem zbx {L:List Int} {B:Nat} {a w w':World} {v:Value} {xs:List Tok} (h:Below B a w) (ho:bQ L w B v xs) (hg:w.grownBy w' v.ownBlock) (hs:B<=w.heap.size):Below B a w' :=
 h.grown hg hs (fun k e=>(World.ownsRow.lt ho k e).1)
theorem zhp {w:World} {ops:Array Oper} {rest:List Oper} {o:Oper} {a:Act} {Q:Exit->Act->World->Prop}
  (hgd:o.guard=none) (s x:Operand) (t:TypeId) (ho:o.op=.call {callee:=.builtin .append,args:=#[s,x],argTypes:=#[t,t]}) (ht:Tryz.prog.underlying t=some (.slice 157))
  (L:List Int) (base:Nat) (v:Value) (xs:List Tok) (hs:a.eval s=v) (hown:bQ L w base v xs) (g c:Nat) (y:Tok) (hx:a.eval x=.slice (some ⟨g,0,none⟩) 1 c) (hz:∀j u,(zaH L y)[j]?=some u->w.cell? ⟨g,j,none⟩=some u)
  (hlen:xs.length<=1000000) (hbase:base<=w.heap.size)
  (hK:∀v' w',bQ L w' base v' (xs++[y])->w.grownBy w' v.ownBlock->wpList Tryz.prog ops Q rest (a.put o.dst v') w') :
  wpList Tryz.prog ops Q (o::rest) a w:=by
 obtain⟨i,hi,hz0,hz1,hz2⟩:=info_parts zmf;refine wpList_append_own w hgd s x t ho base 157 i _ 3 40 ht hi hz0 hz1 hz2 rfl (by decide) v xs.length (xs.flatMap (zaH L)) hs hown ⟨g,0,none⟩ 1 c (zaH L y) hx rfl ?_ ?_ (by unfold maxLen;omega) (by omega) hbase fun v' w' h1 h2 _=>hK v' w' ?_ h2
 ·intro j u hj;rw[Go.WideShapes.add_plain,Nat.zero_add];exact hz j u hj
 ·intro u hu;simp[zaH]at hu;rcases hu with rfl|rfl|rfl <;> rfl
 ·unfold bQ;rw[List.length_append,List.flatMap_append,List.flatMap_singleton];exact h1
namespace Y
inductive Res (α:Type) where
 | ok:α->List Tok->Res α
 | bad:Option Tok->Res α
def Res.bind {α β:Type} (r:Res α) (f:α->List Tok->Res β):Res β:=match r with | .ok a l=>f a l | .bad p=>.bad p
theorem bind_ok {α β:Type} (a:α) (l:List Tok) (f:α->List Tok->Res β):(Res.ok a l).bind f=f a l:=rfl
structure Dcl where
 k:Int
 ns:List Tok
structure Prd where
 l:Tok
 r:List Tok
 p:Option Tok
def is (ks:List Int):List Tok->Bool
 | []=>false
 | t::_=>ks.contains t.k
def take (ks:List Int):List Tok->Res Tok
 | []=>.bad none
 | t::r=>if ks.contains t.k then .ok t r else .bad (some t)
def isRef (t:Tok):Bool:=[(1:Int),2].contains t.k
def decl (ts:List Tok):Res Dcl:=(take [3,4,5,6,7] ts).bind fun t r=>if t.k=7 then(take [1] r).bind fun n r=>.ok ⟨7,[n]⟩ r else(take [1,2] r).bind fun n r=>.ok ⟨t.k,n::r.takeWhile isRef⟩ (r.dropWhile isRef)
def decls:Nat->List Dcl->List Tok->Res (List Dcl)
 | 0,acc,ts=>.ok acc ts
 | f+1,acc,ts=>if is [9] ts then .ok acc ts else(decl ts).bind fun d r=>decls f (acc++[d]) r
def rule2 (left:Tok) (rs r:List Tok):Res Prd:=if is [8] r then(take [8] r).bind fun _ r=>(take [1,2] r).bind fun p r=>.ok ⟨left,rs,some p⟩ r else .ok ⟨left,rs,none⟩ r
def rule (left:Tok) (ts:List Tok):Res Prd:=rule2 left (ts.takeWhile isRef) (ts.dropWhile isRef)
def alts:Nat->Tok->List Prd->List Tok->Res (List Prd)
 | 0,_,acc,ts=>.ok acc ts
 | f+1,left,acc,ts=>(rule left ts).bind fun p r=>(take [11,12] r).bind fun t r=>if t.k=11 then alts f left (acc++[p]) r else .ok (acc++[p]) r
def group (acc:List Prd) (ts:List Tok):Res (List Prd):=(take [1] ts).bind fun left r=>(take [10] r).bind fun _ r=>alts (r.length+1) left acc r
def ziL:Nat->List Prd->List Tok->Res (List Prd)
 | 0,acc,ts=>.ok acc ts
 | f+1,acc,ts=>if ts.length≠0/\is [9] ts=false then(group acc ts).bind fun ps r=>ziL f ps r else .ok acc ts
def zke (ts:List Tok):Res Unit:=if ts.length=0 then .ok () ts else(take [] ts).bind fun _ r=>.ok () r
def tail (ts:List Tok):Res Unit:=if is [9] ts then(take [9] ts).bind fun _ r=>zke r else zke ts
def source (ts:List Tok):Res (List Dcl×List Prd):=(decls (ts.length+1) [] ts).bind fun ds r=>(take [9] r).bind fun _ r=>(group [] r).bind fun ps r=>(ziL (r.length+1) ps r).bind fun ps r=>(tail r).bind fun _ r=>.ok (ds,ps) r
theorem take_cons (ks:List Int) (x:Tok) (xs:List Tok):take ks (x::xs)=if ks.contains x.k then .ok x xs else .bad (some x):=rfl
theorem take_ok {ks:List Int} {ts:List Tok} {t:Tok} {r:List Tok} (h:take ks ts=.ok t r):ts=t::r/\ks.contains t.k=true:=by
 cases ts with
 | nil=>cases h
 | cons x xs =>
  rw[take_cons]at h;by_cases hx:ks.contains x.k=true
  ·rw[if_pos hx]at h;injection h with h1 h2;subst h1 h2;exact⟨rfl,hx⟩
  ·rw[if_neg hx]at h;cases h
theorem is_true {ks:List Int} {ts:List Tok} (h:is ks ts=true):∃t r,ts=t::r/\take ks ts=.ok t r/\ks.contains t.k=true:=by
 cases ts with
 | nil=>cases h
 | cons x xs=>exact⟨x,xs,rfl,by rw[take_cons,if_pos (show ks.contains x.k=true from h)],h⟩
theorem refs_end {ts:List Tok} (h:is [1,2] ts=false):ts.takeWhile isRef=[]/\ts.dropWhile isRef=ts:=by
 cases ts with
 | nil=>exact⟨rfl,rfl⟩
 | cons t r =>
  have h':isRef t=false:=h;rw[List.takeWhile_cons,List.dropWhile_cons,h'];exact⟨rfl,rfl⟩
theorem bind_eq_ok {α β:Type} {x:Res α} {f:α->List Tok->Res β} {b:β} {r:List Tok} (h:x.bind f=.ok b r):∃a m,x=.ok a m/\f a m=.ok b r:=by
 cases x with
 | ok a m=>exact⟨a,m,rfl,h⟩
 | bad p=>cases h
end Y
namespace Gm
inductive R (α:Type) where
 | ok:α->R α
 | bad:Tok->Int->R α
def R.bind {α β:Type} (r:R α) (f:α->R β):R β:=match r with | .ok a=>f a | .bad x e=>.bad x e
theorem R.bind_ok {α β:Type} (a:α) (f:α->R β):(R.ok a).bind f=f a:=rfl
theorem R.bind_eq {α β:Type} {x:R α} {f:α->R β} {b:β} (h:x.bind f=.ok b):∃a,x=.ok a/\f a=.ok b:=by
 cases x with
 | ok a=>exact⟨a,rfl,h⟩
 | bad x e=>cases h
def put (ts:List Tm) (x:Tok):R (List Tm×Int) :=
 if 0<=find (names ts) x.t then .ok (ts,find (names ts) x.t) else if ts.length=24 then .bad x 5 else .ok (ts++[⟨x.t,0,0⟩],ts.length)
structure S1 where
 ts:List Tm
 tk:List (List Int)
 st:Option Tok
 lv:Int
def decl1 (k:Int) (S:S1) (x:Tok):R S1 :=
 if k=7 then(if S.st.isSome then .bad x 7 else .ok {S with st:=some x})
 else if k=3 then(if x.t∈S.tk then .bad x 7 else(put S.ts x).bind fun p=>.ok {S with ts:=p.1,tk:=S.tk++[x.t]})
 else if 0<=find (names S.ts) x.t/\0<(S.ts.map Tm.lv).getD (find (names S.ts) x.t).toNat 0 then .bad x 7
 else(put S.ts x).bind fun p=>.ok {S with ts:=p.1.modify p.2.toNat fun t=>⟨t.nm,S.lv,k-3⟩}
def declN (k:Int):S1->List Tok->R S1
 | S,[]=>.ok S
 | S,x::r=>(decl1 k S x).bind fun S=>declN k S r
def up (k:Int) (S:S1):S1:=if k=3\/k=7 then S else {S with lv:=S.lv+1}
def decls:S1->List Y.Dcl->R S1
 | S,[]=>.ok S
 | S,d::r=>(declN d.k (up d.k S) d.ns).bind fun S=>decls S r
def left1 (ts:List Tm) (ns:List (List Int)) (x:Tok):R (List (List Int)) :=
 if 0<=find (names ts) x.t then .bad x 7 else if 0<=find ns x.t then .ok ns else if ns.length=16 then .bad x 5 else .ok (ns++[x.t])
def lefts (ts:List Tm):List (List Int)->List Y.Prd->R (List (List Int))
 | ns,[]=>.ok ns
 | ns,p::r=>(left1 ts ns p.l).bind fun ns=>lefts ts ns r
def sym (ts:List Tm) (x:Tok):R (List Tm×Int) :=
 if 0<=find (names ts) x.t\/T.isLit x.t=true\/x.t=[101,114,114,111,114] then put ts x else .bad x 6
def symR (ns:List (List Int)) (ts:List Tm) (x:Tok):R (List Tm×Int):=if 0<=find ns x.t then .ok (ts,-1-find ns x.t) else sym ts x
def symP (ns:List (List Int)) (ts:List Tm) (x:Tok):R (List Tm×Int):=if 0<=find ns x.t then .bad x 6 else sym ts x
def rights (ns:List (List Int)):List Tm->List Int->Int->List Tok->R (List Tm×List Int×Int)
 | ts,acc,p,[]=>.ok (ts,acc,p)
 | ts,acc,p,x::r=>if acc.length=6 then .bad x 5 else(symR ns ts x).bind fun q=>rights ns q.1 (acc++[q.2]) (if 0<=q.2 then q.2 else p) r
def prod1 (ns:List (List Int)) (ts:List Tm) (rs:List Rl) (p:Y.Prd):R (List Tm×List Rl) :=
 if rs.length=40 then .bad p.l 5 else(rights ns ts [] (-1) p.r).bind fun q=>match p.p with
  | none=>.ok (q.1,rs++[⟨find ns p.l.t,q.2.1,q.2.2⟩])
  | some x=>(symP ns q.1 x).bind fun y=>.ok (y.1,rs++[⟨find ns p.l.t,q.2.1,y.2⟩])
def prods (ns:List (List Int)):List Tm->List Rl->List Y.Prd->R (List Tm×List Rl)
 | ts,rs,[]=>.ok (ts,rs)
 | ts,rs,p::r=>(prod1 ns ts rs p).bind fun q=>prods ns q.1 q.2 r
def start (ns:List (List Int)):Option Tok->R Int
 | none=>.ok 0
 | some x=>if 0<=find ns x.t then .ok (find ns x.t) else .bad x 8
def build (ds:List Y.Dcl) (ps:List Y.Prd):R Gr :=
 (decls ⟨[],[],none,0⟩ ds).bind fun S=>(lefts S.ts [] ps).bind fun ns=>(prods ns S.ts [] ps).bind fun q=>(start ns S.st).bind fun z=>.ok ⟨q.1,ns,q.2,z⟩
end Gm
namespace Gm
theorem zb1 (ts:List Tm):(names ts).length=ts.length:=by simp[names]
theorem put_ok {ts ts':List Tm} {x:Tok} {n:Int} (h:put ts x=.ok (ts',n)):(∃j:Nat,find (names ts) x.t=(j:Int)/\ts'=ts/\n=(j:Int)/\∃hj:j<ts.length,(ts[j]).nm=x.t)\/(x.t ∉ names ts/\ts'=ts++[⟨x.t,0,0⟩]/\n=(ts.length:Int)/\ts.length≠24):=by
 unfold put at h;split at h
 ·rename_i h0
  injection h with h;injection h with h1 h2;obtain⟨i,e,hi,hs⟩:=zg4 h0;rw[zb1]at hi;exact .inl ⟨i,e,h1.symm,by rw[<-h2,e],hi,by simpa[names] using hs⟩
 ·rename_i h0
  split at h
  ·cases h
  ·rename_i h24
   injection h with h;injection h with h1 h2;exact .inr ⟨zaL.1 (by omega),h1.symm,h2.symm,h24⟩
theorem mem_modify {l:List Tm} {n:Nat} {f:Tm->Tm} {t:Tm} (h:t∈l.modify n f):t∈l \/ ∃hn:n<l.length,t=f l[n]:=by
 obtain⟨i,hi,rfl⟩:=List.getElem_of_mem h;rw[List.length_modify]at hi;rw[List.getElem_modify];split
 ·rename_i e;subst e;exact .inr ⟨hi,rfl⟩
 ·exact .inl (List.getElem_mem _)
theorem few:∀(L:Nat) (ts:List Tm),(∀n:Nat,1<=n->n<=L->∃t∈ts,t.lv=(n:Int))->L<=ts.length
 | 0,_,_=>Nat.zero_le _
 | L+1,ts,h=>by
  obtain⟨t,ht,e⟩:=h (L+1) (by omega) (by omega);obtain⟨a,b,rfl⟩:=List.append_of_mem ht
  have:=few L (a++b) (fun n h1 h2=>by
   obtain⟨u,hu,eu⟩:=h n h1 (by omega);refine⟨u,?_,eu⟩;simp only[List.mem_append,List.mem_cons]at hu ⊢;rcases hu with q|q|q
   ·exact .inl q
   ·subst q;omega
   ·exact .inr q)
  simp at this ⊢;omega
theorem zcX {n w:Int} (hw:w≠0):∀(ts:List Tm) (way:Int),(∀t∈ts,t.lv=n->t.wy=w)->way=0\/way=w->way=w\/(∃t∈ts,t.lv=n)->lev n ts way=true
 | [],way,_,_,h=>by
  unfold lev;rcases h with h|⟨t,ht,_⟩
  ·subst h;simpa using hw
  ·simp at ht
 | t::r,way,h1,h2,h3=>by
  rw[lev];by_cases hl:t.lv=n
  ·have e:=h1 t (List.mem_cons_self ..) hl;rw[if_neg (show ¬t.lv≠n from fun q=>q hl),if_neg (show ¬(way≠0/\way≠t.wy) from fun q=>by rcases h2 with p|p;exact q.1 p;exact q.2 (p.trans e.symm))];exact zcX hw r t.wy (fun u hu=>h1 u (List.mem_cons_of_mem _ hu)) (.inr e) (.inl e)
  ·rw[if_pos hl];refine zcX hw r way (fun u hu=>h1 u (List.mem_cons_of_mem _ hu)) h2 ?_;rcases h3 with h3|⟨u,hu,eu⟩
   ·exact .inl h3
   ·rcases List.mem_cons.1 hu with q|q
    ·subst q;exact absurd eu hl
    ·exact .inr ⟨u,q,eu⟩
theorem zdI {l:List (List Int)} (hn:l.Nodup) (i:Nat) (hi:i<l.length):find l l[i]=(i:Int) :=
 find_first i hi rfl fun k hk=>fun e=>List.pairwise_iff_getElem.1 hn k i (by omega) hi hk e
end Gm
namespace Gm
def zhD (n:Nat):List Int->Int->Bool
 | [],top=>top==n-1
 | l::r,top=>if l<0\/top+1<l then false else zhD n r (if top<l then l else top)
theorem left1_ok {ts:List Tm} {ns ns':List (List Int)} {x:Tok} (h:left1 ts ns x=.ok ns'):(ns'=ns/\0<=find ns x.t)\/(ns'=ns++[x.t]/\x.t ∉ ns/\x.t ∉ names ts/\ns.length≠16):=by
 unfold left1 at h;split at h
 ·cases h
 ·rename_i h1
  split at h
  ·rename_i h2
   injection h with h;exact .inl ⟨h.symm,h2⟩
  ·rename_i h2
   split at h
   ·cases h
   ·rename_i h3
    injection h with h;exact .inr ⟨h.symm,zaL.1 (by omega),zaL.1 (by omega),h3⟩
theorem zcn (G:Gr):∀(rs:List Rl) (top:Int),(∀r∈rs,rule G r=true)->zhD G.ns.length (rs.map Rl.l) top=true->zcb G rs top=true
 | [],_,_,h=>h
 | r::rs,top,hr,h=>by
  rw[List.map_cons,zhD]at h;rw[zcb];split at h
  ·cases h
  ·rename_i h1
   rw[if_neg (by rw[hr r (List.mem_cons_self ..)];simp;omega)];exact zcn G rs _ (fun y hy=>hr y (List.mem_cons_of_mem _ hy)) h
end Gm
namespace Gm
theorem pigeons:∀(g:Nat) (l:List Int),l.Nodup->(∀x∈l,1<=x/\x<=g)->l.length<=g/\(l.length=g->∀n:Nat,1<=n->n<=g->(n:Int)∈l)
 | 0,l,_,hb=>by
  have:l=[]:=by
   rcases l with _|⟨x,r⟩
   ·rfl
   ·have:=hb x (by simp);omega
  subst this;exact⟨Nat.le_refl _,fun _ n h1 h2=>by omega⟩
 | g+1,l,hn,hb=>by
  by_cases hm:((g+1:Nat):Int)∈l
  ·have hl:=List.length_erase_of_mem hm;have hpos:0<l.length:=List.length_pos_of_mem hm
   obtain⟨h1,h2⟩:=pigeons g (l.erase ((g+1:Nat):Int)) (hn.erase _) (fun x hx=>by
    have hx':=(hn.mem_erase_iff).1 hx
    have:=hb x hx'.2
    have:=hx'.1
    omega)
   refine⟨by omega,fun e n q1 q2=>?_⟩;by_cases hg:n=g+1
   ·subst hg;exact hm
   ·exact List.mem_of_mem_erase (h2 (by omega) n q1 (by omega))
  ·obtain⟨h1,_⟩:=pigeons g l hn (fun x hx=>by
    have:=hb x hx
    have:x≠((g+1:Nat):Int):=fun e=>hm (e▸hx)
    omega)
   exact⟨by omega,fun e=>by omega⟩
structure LvGood (ts:List Tm):Prop where
 a:∀t∈ts,asB t=true
 b:∀t∈ts,∀u∈ts,0<t.lv->t.lv=u.lv->t.wy=u.wy
 c:∀t∈ts,∀n:Nat,1<=n->(n:Int)<=t.lv->∃u∈ts,u.lv=(n:Int)
theorem zc5 (t:Tm):asB t=true↔0<=t.lv/\0<=t.wy/\t.wy<=3/\(t.lv=0↔t.wy=0):=by
 unfold asB;by_cases h0:t.wy=0
 ·rw[if_pos h0];simp only[beq_iff_eq];omega
 ·rw[if_neg h0];by_cases h1:t.wy=1\/t.wy=2\/t.wy=3
  ·rw[if_pos h1];simp only[decide_eq_true_eq];omega
  ·rw[if_neg h1];simp only[Bool.false_eq_true,false_iff];omega
structure Inv (pre:List Tm) (m:List (Int×Int)) (g:Int):Prop where
 n:(m.map Prod.fst).Nodup
 f:∀t∈pre,0<t.lv->Mw.asc m t.lv=some t.wy
 r:∀l w,Mw.asc m l=some w->0<l/\∃t∈pre,t.lv=l/\t.wy=w
 a:∀t∈pre,asB t=true
 g0:0<=g
 g1:∀t∈pre,t.lv<=g
 g2:g=0 \/ ∃t∈pre,t.lv=g
theorem Inv.nil:Inv [] [] 0:=⟨by simp,by simp,fun _ _ h=>by simp[Mw.asc]at h,by simp,Int.le_refl _,by simp,.inl rfl⟩
theorem Inv.key {pre:List Tm} {m:List (Int×Int)} {g:Int} (h:Inv pre m g) {x:Int} (hx:x∈m.map Prod.fst):∃w,Mw.asc m x=some w:=by
 obtain⟨p,hp,rfl⟩:=List.mem_map.1 hx;exact⟨p.2,Mw.asc_of_mem h.n hp⟩
theorem Inv.next {pre:List Tm} {m:List (Int×Int)} {g:Int} {t:Tm} (h:Inv pre m g) (ha:asB t=true) (hc:¬((Mw.asc m t.lv).isSome=true/\(Mw.asc m t.lv).getD 0≠t.wy)):Inv (pre++[t]) (zdC m t) (max g t.lv):=by
 have hl:=((zc5 t).1 ha).1;have hmem:∀u,u∈pre++[t]↔u∈pre\/u=t:=fun u=>by simp
 have hg0:=h.g0
 have hgg:0<=max g t.lv/\(∀u∈pre++[t],u.lv<=max g t.lv)/\(max g t.lv=0 \/ ∃u∈pre++[t],u.lv=max g t.lv):=by
  refine⟨by omega,fun u hu=>?_,?_⟩
  ·rcases(hmem u).1 hu with q|rfl
   ·have:=h.g1 u q;omega
   ·omega
  ·by_cases hgt:g<=t.lv
   ·exact .inr ⟨t,(hmem t).2 (.inr rfl),by omega⟩
   ·rcases h.g2 with q|⟨u,hu,e⟩
    ·omega
    ·exact .inr ⟨u,(hmem u).2 (.inl hu),by omega⟩
 have haa:∀u∈pre++[t],asB u=true:=fun u hu=>by
  rcases(hmem u).1 hu with q|rfl
  ·exact h.a u q
  ·exact ha
 unfold zdC;by_cases hp:0<t.lv
 ·rw[if_pos hp];cases hq:Mw.asc m t.lv with
  | none =>
   rw[if_pos rfl];refine⟨?_,?_,?_,haa,hgg.1,hgg.2.1,hgg.2.2⟩
   ·rw[List.map_append,List.nodup_append];refine⟨h.n,by simp,fun x hx y hy e=>?_⟩;simp only[List.map_cons,List.map_nil,List.mem_singleton]at hy;obtain⟨w,hw⟩:=h.key hx;rw[e,hy,hq]at hw;cases hw
   ·intro u hu h0;rw[Mw.asc_snoc hq];rcases(hmem u).1 hu with q|rfl
    ·have:=h.f u q h0
     by_cases e:t.lv=u.lv
     ·rw[<-e,hq]at this;cases this
     ·rw[if_neg e];exact this
    ·rw[if_pos rfl]
   ·intro l w hw;rw[Mw.asc_snoc hq]at hw;by_cases e:t.lv=l
    ·rw[if_pos e]at hw;injection hw with hw;exact⟨by omega,t,(hmem t).2 (.inr rfl),e,hw⟩
    ·rw[if_neg e]at hw;obtain⟨h1,u,hu,h2⟩:=h.r l w hw;exact⟨h1,u,(hmem u).2 (.inl hu),h2⟩
  | some w =>
   rw[if_neg (by simp)];have hwt:w=t.wy:=Classical.byContradiction fun e=>hc (by rw[hq];exact⟨rfl,e⟩);refine⟨h.n,?_,?_,haa,hgg.1,hgg.2.1,hgg.2.2⟩
   ·intro u hu h0;rcases(hmem u).1 hu with q|rfl
    ·exact h.f u q h0
    ·rw[hq,hwt]
   ·intro l w hw;obtain⟨h1,u,hu,h2⟩:=h.r l w hw;exact⟨h1,u,(hmem u).2 (.inl hu),h2⟩
 ·rw[if_neg hp];refine⟨h.n,?_,?_,haa,hgg.1,hgg.2.1,hgg.2.2⟩
  ·intro u hu h0;rcases(hmem u).1 hu with q|rfl
   ·exact h.f u q h0
   ·exact absurd h0 hp
  ·intro l w hw;obtain⟨h1,u,hu,h2⟩:=h.r l w hw;exact⟨h1,u,(hmem u).2 (.inl hu),h2⟩
theorem zgi:∀(r pre:List Tm) (m:List (Int×Int)) (g:Int),Inv pre m g->(rlF r m g=true↔LvGood (pre++r))
 | [],pre,m,g,h=>by
  rw[List.append_nil,rlF,beq_iff_eq]
  have hin:∀x∈m.map Prod.fst,1<=x/\x<=(g.toNat:Int):=fun x hx=>by
   obtain⟨w,hw⟩:=h.key hx;obtain⟨h1,u,hu,h2,_⟩:=h.r x w hw
   have:=h.g1 u hu
   have:=h.g0
   omega
  obtain⟨p1,p2⟩:=pigeons g.toNat (m.map Prod.fst) h.n hin;rw[List.length_map]at p1 p2;have hg0:=h.g0
  constructor
  ·intro e;refine⟨h.a,fun t ht u hu h0 e'=>?_,fun t ht n q1 q2=>?_⟩
   ·have a1:=h.f t ht h0;have a2:=h.f u hu (by omega);rw[e',a2]at a1;injection a1 with a1;exact a1.symm
   ·have:=h.g1 t ht
    have hk:=p2 (by omega) n q1 (by omega);obtain⟨w,hw⟩:=h.key hk;obtain⟨_,u,hu,h2,_⟩:=h.r _ w hw;exact⟨u,hu,h2⟩
  ·intro hgd;rcases h.g2 with q|⟨t,ht,e⟩
   ·omega
   ·have:g.toNat<=(m.map Prod.fst).length:=by
     have hh:∀n:Nat,1<=n->n<=g.toNat->∃t∈m.map (fun p=>(⟨[],p.1,0⟩:Tm)),t.lv=(n:Int):=fun n q1 q2=>by
      obtain⟨u,hu,e2⟩:=hgd.c t ht n q1 (by omega)
      have:=h.f u hu (by omega)
      rw[e2]at this;exact⟨_,List.mem_map.2 ⟨_,Mw.asc_mem this,rfl⟩,rfl⟩
     have:=few g.toNat _ hh
     simpa using this
    rw[List.length_map]at this;omega
 | t::r,pre,m,g,h=>by
  rw[rlF];by_cases ha:asB t=false
  ·rw[if_pos ha];simp only[Bool.false_eq_true,false_iff];intro q
   have:=q.a t (by simp)
   rw[ha]at this;cases this
  ·rw[if_neg ha];have ha:asB t=true:=by simpa using ha
   by_cases hc:(Mw.asc m t.lv).isSome=true/\(Mw.asc m t.lv).getD 0≠t.wy
   ·rw[if_pos hc];simp only[Bool.false_eq_true,false_iff];intro q;cases hq:Mw.asc m t.lv with
    | none=>rw[hq]at hc;simp at hc
    | some w =>
     rw[hq]at hc;obtain⟨h1,u,hu,h2,h3⟩:=h.r _ w hq
     have:=q.b u (by simp[hu]) t (by simp) (by omega) h2
     exact hc.2 (by simp only[Option.getD_some];omega)
   ·rw[if_neg hc,zgi r (pre++[t]) _ _ (h.next ha hc),List.append_assoc,List.singleton_append]
theorem zcY {n:Int}:∀(ts:List Tm) (way:Int),(∀t∈ts,t.lv=n->t.wy≠0)->lev n ts way=true->(way≠0 \/ ∃t∈ts,t.lv=n)/\∃w,(way=0\/way=w)/\∀t∈ts,t.lv=n->t.wy=w
 | [],way,_,h=>by
  rw[lev]at h
  have:way≠0:=by simpa using h
  exact⟨.inl this,way,.inr rfl,by simp⟩
 | t::r,way,hn,h=>by
  rw[lev]at h;by_cases h1:t.lv≠n
  ·rw[if_pos h1]at h;obtain⟨a,w,b,c⟩:=zcY r way (fun u hu=>hn u (by simp[hu])) h;refine⟨?_,w,b,fun u hu e=>?_⟩
   ·rcases a with a|⟨u,hu,e⟩
    ·exact .inl a
    ·exact .inr ⟨u,by simp[hu],e⟩
   ·rcases List.mem_cons.1 hu with rfl|hu
    ·exact absurd e h1
    ·exact c u hu e
  ·rw[if_neg h1]at h;have h1:t.lv=n:=Classical.byContradiction h1;by_cases h2:way≠0/\way≠t.wy
   ·rw[if_pos h2]at h;cases h
   ·rw[if_neg h2]at h;obtain⟨a,w,b,c⟩:=zcY r t.wy (fun u hu=>hn u (by simp[hu])) h
    have hw:t.wy=w:=by
     rcases b with b|b
     ·exact absurd b (hn t (by simp) h1)
     ·exact b
    refine⟨.inr ⟨t,by simp,h1⟩,w,?_,fun u hu e=>?_⟩
    ·by_cases hw0:way=0
     ·exact .inl hw0
     ·refine .inr (Classical.byContradiction fun q=>h2 ⟨hw0,fun e=>q (e.trans hw)⟩)
    ·rcases List.mem_cons.1 hu with rfl|hu
     ·exact hw
     ·exact c u hu e
def zlJ (ts:List Tm):Prop:=∀t∈ts,0<=t.lv/\t.lv<=24/\0<=t.wy/\t.wy<=3/\(t.lv=0↔t.wy=0)/\∀n:Nat,n<t.lv.toNat->lev ((n+1:Nat):Int) ts 0=true
theorem ziH {ts:List Tm} (hl:ts.length<=24):LvGood ts↔zlJ ts:=by
 constructor
 ·intro h t ht;have ha:=(zc5 t).1 (h.a t ht);have h24:t.lv.toNat<=ts.length:=few t.lv.toNat ts fun n q1 q2=>h.c t ht n q1 (by omega);refine⟨ha.1,by omega,ha.2.1,ha.2.2.1,ha.2.2.2,fun n hn=>?_⟩;obtain⟨u,hu,e⟩:=h.c t ht (n+1) (by omega) (by omega);have hau:=(zc5 u).1 (h.a u hu);exact zcX (w:=u.wy) (by omega) ts 0 (fun x hx ex=>(h.b u hu x hx (by omega) (by omega)).symm) (.inl rfl) (.inr ⟨u,hu,e⟩)
 ·intro h;refine⟨fun t ht=>(zc5 t).2 ?_,fun t ht u hu h0 e=>?_,fun t ht n q1 q2=>?_⟩
  ·obtain⟨h1,h2,h3,h4,h5,_⟩:=h t ht;exact⟨h1,h3,h4,h5⟩
  ·obtain⟨h1,h2,h3,h4,h5,h6⟩:=h t ht;have hl:=h6 (t.lv.toNat-1) (by omega);have hn:((t.lv.toNat-1+1:Nat):Int)=t.lv:=by omega
   rw[hn]at hl;obtain⟨_,w,_,c⟩:=zcY ts 0 (fun x hx ex q=>by have:=(h x hx).2.2.2.2.1;omega) hl;rw[c t ht rfl,c u hu e.symm]
  ·obtain⟨h1,h2,h3,h4,h5,h6⟩:=h t ht;have hl:=h6 (n-1) (by omega);have hn:((n-1+1:Nat):Int)=(n:Int):=by omega
   rw[hn]at hl;obtain⟨a,_⟩:=zcY ts 0 (fun x hx ex q=>by have:=(h x hx).2.2.2.2.1;omega) hl;rcases a with a|a
   ·exact absurd rfl a
   ·exact a
theorem zcu {l:List (List Int)} (h:∀i (hi:i<l.length),find l l[i]=(i:Int)):l.Nodup:=by
 rw[List.nodup_iff_pairwise_ne,List.pairwise_iff_getElem];intro i j hi hj hij e;have h1:=h i hi;have h2:=h j hj;rw[e,h2]at h1;omega
theorem terms_iff (ts:List Tm):terms ts=true↔ts.length<=24/\(∀t∈ts,named t.nm=true)/\(names ts).Nodup/\zlJ ts:=by
 unfold terms;rw[Bool.and_eq_true,decide_eq_true_eq,decide_eq_true_eq];have hnl:(names ts).length=ts.length:=zb1 ts;have hni:∀i (h:i<ts.length),(names ts)[i]'(by omega)=ts[i].nm:=fun i h=>by simp[names]
 constructor
 ·rintro⟨h1,h2⟩
  have h3:∀i (h:i<ts.length),named ts[i].nm=true/\find (names ts) ts[i].nm=(i:Int)/\0<=ts[i].lv/\ts[i].lv<=24/\0<=ts[i].wy/\ts[i].wy<=3/\(ts[i].lv=0↔ts[i].wy=0)/\∀n:Nat,n<ts[i].lv.toNat->lev ((n+1:Nat):Int) ts 0=true:=fun i h=>by
   have:=h2 i h
   unfold zjb at this;simp only[Bool.and_eq_true,decide_eq_true_eq,beq_iff_eq]at this;obtain⟨⟨⟨⟨⟨⟨⟨a,b⟩,c⟩,d⟩,e⟩,f⟩,g⟩,k⟩:=this;refine⟨a,b,c,d,e,f,?_,k⟩;rw[Bool.eq_iff_iff,beq_iff_eq,beq_iff_eq]at g;exact g
  refine⟨h1,fun t ht=>?_,zcu fun i hi=>?_,fun t ht=>?_⟩
  ·obtain⟨i,hi,rfl⟩:=List.getElem_of_mem ht;exact(h3 i hi).1
  ·rw[hni i (by omega)];exact(h3 i (by omega)).2.1
  ·obtain⟨i,hi,rfl⟩:=List.getElem_of_mem ht;exact(h3 i hi).2.2
 ·rintro⟨h1,h2,h3,h4⟩;refine⟨h1,fun i hi=>?_⟩;unfold zjb;simp only[Bool.and_eq_true,decide_eq_true_eq,beq_iff_eq];obtain⟨c,d,e,f,g,k⟩:=h4 _ (List.getElem_mem hi);refine⟨⟨⟨⟨⟨⟨⟨h2 _ (List.getElem_mem hi),?_⟩,c⟩,d⟩,e⟩,f⟩,?_⟩,k⟩
  ·rw[<-hni i hi];exact zdI h3 i (by omega)
  ·rw[Bool.eq_iff_iff,beq_iff_eq,beq_iff_eq];exact g
theorem nons_iff (G:Gr):zlN G=true↔1<=G.ns.length/\G.ns.length<=16/\(∀s∈G.ns,T.isName s=true)/\G.ns.Nodup/\∀s∈G.ns,s ∉ names G.ts:=by
 unfold zlN;rw[Bool.and_eq_true,Bool.and_eq_true,decide_eq_true_eq,decide_eq_true_eq,decide_eq_true_eq]
 constructor
 ·rintro⟨⟨h1,h2⟩,h3⟩
  have h4:∀i (h:i<G.ns.length),T.isName G.ns[i]=true/\find G.ns G.ns[i]=(i:Int)/\find (names G.ts) G.ns[i]<0:=fun i h=>by
   have:=h3 i h
   unfold zl8 non term at this;simp only[Bool.and_eq_true,decide_eq_true_eq,beq_iff_eq]at this;exact⟨this.1.1,this.1.2,this.2⟩
  refine⟨h1,h2,fun s hs=>?_,zcu fun i hi=>(h4 i hi).2.1,fun s hs=>?_⟩
  ·obtain⟨i,hi,rfl⟩:=List.getElem_of_mem hs;exact(h4 i hi).1
  ·obtain⟨i,hi,rfl⟩:=List.getElem_of_mem hs;exact zaL.1 (h4 i hi).2.2
 ·rintro⟨h1,h2,h3,h4,h5⟩;refine⟨⟨h1,h2⟩,fun i hi=>?_⟩;unfold zl8 non term;simp only[Bool.and_eq_true,decide_eq_true_eq,beq_iff_eq];exact⟨⟨h3 _ (List.getElem_mem hi),zdI h4 i hi⟩,zaL.2 (h5 _ (List.getElem_mem hi))⟩
theorem zkm (G:Gr):rnB G=true↔G.ts.length<=24/\1<=G.ns.length/\G.ns.length<=16/\(∀t∈G.ts,named t.nm=true)/\(∀s∈G.ns,T.isName s=true)/\(names G.ts++G.ns).Nodup:=by
 unfold rnB nmL;simp only[Bool.and_eq_true,decide_eq_true_eq,List.all_eq_true,List.length_map];have h:=(zls [] (names G.ts++G.ns) (by simp)).2;simp only[List.length_nil,Nat.zero_add,List.nil_append,List.length_append,zb1]at h;rw[h]
 constructor
 ·rintro⟨⟨⟨⟨⟨a,b⟩,c⟩,d⟩,e⟩,f⟩;exact⟨a,b,c,d,e,f⟩
 ·rintro⟨a,b,c,d,e,f⟩;exact⟨⟨⟨⟨⟨a,b⟩,c⟩,d⟩,e⟩,f⟩
theorem zlT (G:Gr) (x:Rl):ruB G x=rule G x:=by
 rw[Bool.eq_iff_iff];unfold ruB rule
 have hn:x.r.any (zbo G)=false ↔ ∀z∈x.r,has G z=true:=by
  rw[List.any_eq_false];unfold zbo
  constructor
  ·intro h z hz;have:=h z hz;simpa using this
  ·intro h z hz;rw[h z hz];simp
 have ht:x.r.any isT=false ↔ ∀z∈x.r,¬0<=z:=by
  rw[List.any_eq_false];unfold isT
  constructor
  ·intro h z hz;simpa using h z hz
  ·intro h z hz;simpa using h z hz
 simp only[Bool.and_eq_true,decide_eq_true_eq,Bool.not_eq_true',List.all_eq_true,hn];by_cases hp:x.p = -1
 ·rw[if_pos hp];simp only[Bool.not_eq_true',ht,hp,beq_self_eq_true,Bool.and_true,decide_eq_false_iff_not]
  constructor
  ·rintro⟨⟨a,b⟩,c⟩;exact⟨⟨⟨a,by omega⟩,by omega⟩,fun z hz=>⟨b z hz,c z hz⟩⟩
  ·rintro⟨⟨⟨a,_⟩,_⟩,b⟩;exact⟨⟨a,fun z hz=>(b z hz).1⟩,fun z hz=>(b z hz).2⟩
 ·rw[if_neg hp];have hp':(x.p == -1)=false:=by simpa using hp
  simp only[hp',Bool.and_false,and_true,Bool.and_eq_true];unfold isT has;rw[decide_eq_true_eq]
  constructor
  ·rintro⟨⟨a,b⟩,c,d⟩;rw[if_pos c,decide_eq_true_eq]at d;exact⟨⟨⟨a,by omega⟩,d⟩,b⟩
  ·rintro⟨⟨⟨a,b⟩,c⟩,d⟩;have h0:0<=x.p:=by omega
   exact⟨⟨a,d⟩,h0,by rw[if_pos h0,decide_eq_true_eq];exact c⟩
theorem zki (G:Gr):∀(rs:List Rl) (top:Int),rrF G rs (top+1)=zcb G rs top
 | [],top=>by
  rw[rrF,zcb,Bool.eq_iff_iff,beq_iff_eq,beq_iff_eq];omega
 | r::rs,top=>by
  rw[rrF,zcb,zlT];by_cases h:r.l<0\/top+1<r.l\/rule G r=false
  ·rw[if_pos h,if_pos h]
  ·rw[if_neg h,if_neg h];rw[<-zki G rs]
   congr 1
   by_cases h2:top<r.l
   ·rw[if_pos h2];omega
   ·rw[if_neg h2];omega
theorem right_eq (G:Gr):zbJ G=right G:=by
 rw[Bool.eq_iff_iff];unfold zbJ right rrB;have hrr:=zki G G.rs (-1);rw[show(-1:Int)+1=0 from rfl]at hrr;simp only[Bool.and_eq_true,decide_eq_true_eq,hrr,zkm,terms_iff,nons_iff];have hlv:=zgi G.ts [] [] 0 Inv.nil;rw[List.nil_append]at hlv;rw[hlv,List.nodup_append]
 constructor
 ·rintro⟨⟨⟨⟨⟨a,b,c,d,e,f1,f2,f3⟩,g⟩,h,k⟩,l⟩,m⟩;refine⟨⟨⟨⟨⟨⟨⟨a,d,f1,(ziH a).1 g⟩,b,c,e,f2,fun s hs q=>f3 s q s hs rfl⟩,?_⟩,h⟩,l⟩,m⟩,k⟩;rcases hz:G.rs with _|⟨x,r⟩
  ·rw[hz,zcb,beq_iff_eq]at k;omega
  ·simp
 ·rintro⟨⟨⟨⟨⟨⟨⟨a,d,f1,g⟩,b,c,e,f2,f3⟩,_⟩,h⟩,l⟩,m⟩,k⟩;exact⟨⟨⟨⟨⟨a,b,c,d,e,f1,f2,fun s hs q hq ee=>f3 q hq (ee▸hs)⟩,(ziH a).2 g⟩,h,k⟩,l⟩,m⟩
end Gm
theorem zaK (v:Value) (G:Gm.Gr) (B:Nat) (w:World) (hg:aU w B v G) (hf:Gm.Fit G) (hB:B<=w.heap.size) :
  Calls Tryz.prog 96 #[v] w fun e w'=>e=.returned (.bool (Gm.right G))/\Below w.heap.size w w':=by
 rw[<-Gm.right_eq];exact zfD v G B w hg hf hB
namespace Gm
noncomputable def tr (p:Prop):Bool:=@decide p (Classical.propDecidable p)
theorem tr_iff {p:Prop}:tr p=true↔p:=by unfold tr;exact @decide_eq_true_iff p (Classical.propDecidable p)
inductive Gn (tm:Bool) (rs:List Rl):Int->Prop
 | mk (x:Rl) (hx:x∈rs) (ht:∀z∈x.r,0<=z->tm=true) (hn:∀z∈x.r,z<0->Gn tm rs (-1-z)):Gn tm rs x.l
def Al (tm:Bool) (rs:List Rl) (r:List Int):Prop:=(∀z∈r,0<=z->tm=true)/\∀z∈r,z<0->Gn tm rs (-1-z)
theorem Gn.of {tm:Bool} {rs:List Rl} {x:Rl} (hx:x∈rs) (h:Al tm rs x.r):Gn tm rs x.l:=.mk x hx h.1 h.2
theorem Gn.rule {tm:Bool} {rs:List Rl} {j:Int} (h:Gn tm rs j):∃x∈rs,x.l=j/\Al tm rs x.r:=by
 cases h with
 | mk x hx ht hn=>exact⟨x,hx,rfl,ht,hn⟩
theorem Gn.more {tm:Bool} {rs rs':List Rl} (hs:∀x∈rs,x∈rs') {j:Int} (h:Gn tm rs j):Gn tm rs' j:=by
 induction h with
 | mk x hx ht _ ih=>exact .mk x (hs x hx) ht ih
inductive Rc (G:Gr):Int->Prop
 | st:Rc G G.st
 | on (x:Rl) (hx:x∈G.rs) (h:Rc G x.l) (hp:Al true G.rs x.r) (z:Int) (hz:z∈x.r) (hn:z<0):Rc G (-1-z)
theorem Al.more {tm:Bool} {rs rs':List Rl} (hs:∀x∈rs,x∈rs') {r:List Int} (h:Al tm rs r):Al tm rs' r:=⟨h.1,fun z hz hn=>(h.2 z hz hn).more hs⟩
theorem Rc.more {G H:Gr} (hs:∀x∈G.rs,x∈H.rs) (he:G.st=H.st) {j:Int} (h:Rc G j):Rc H j:=by
 induction h with
 | st=>rw[he];exact .st
 | on x hx _ hp z hz hn ih=>exact .on x (hs x hx) ih (hp.more hs) z hz hn
noncomputable def gn (tm:Bool) (rs:List Rl) (n:Nat):List Bool:=(List.range n).map fun i:Nat=>tr (Gn tm rs (i:Int))
noncomputable def rc (G:Gr):List Bool:=(List.range G.ns.length).map fun i:Nat=>tr (Rc G (i:Int))
theorem gn_len (tm:Bool) (rs:List Rl) (n:Nat):(gn tm rs n).length=n:=by simp[gn]
theorem rc_len (G:Gr):(rc G).length=G.ns.length:=by simp[rc]
theorem gn_at (tm:Bool) (rs:List Rl) (n i:Nat) (h:i<n):(gn tm rs n).getD i false=tr (Gn tm rs (i:Int)):=by simp[gn,h]
theorem rc_at (G:Gr) (i:Nat) (h:i<G.ns.length):(rc G).getD i false=tr (Rc G (i:Int)):=by simp[rc,h]
def Le:List Bool->List Bool->Prop
 | [],[]=>True
 | a::r,b::s=>(a=true->b=true)/\Le r s
 | _,_=>False
theorem Le.refl:∀s,Le s s
 | []=>trivial
 | _::s=>⟨id,Le.refl s⟩
theorem Le.trans:∀ {a b c:List Bool},Le a b->Le b c->Le a c
 | [],[],[],_,_=>trivial
 | _::_,_::_,_::_,h,k=>⟨fun e=>k.1 (h.1 e),h.2.trans k.2⟩
 | [],_::_,_,h,_=>h.elim
 | _::_,[],_,h,_=>h.elim
 | [],[],_::_,_,k=>k.elim
 | _::_,_::_,[],_,k=>k.elim
theorem Le.len:∀ {a b:List Bool},Le a b->a.length=b.length
 | [],[],_=>rfl
 | _::_,_::_,h=>by simp[h.2.len]
 | [],_::_,h=>h.elim
 | _::_,[],h=>h.elim
theorem Le.anti:∀ {a b:List Bool},Le a b->Le b a->a=b
 | [],[],_,_=>rfl
 | x::a,y::b,h,k=>by
  rw[h.2.anti k.2];cases x <;> cases y <;> simp_all [Le]
 | [],_::_,h,_=>h.elim
 | _::_,[],h,_=>h.elim
theorem Le.get:∀ {a b:List Bool} (i:Nat),Le a b->a.getD i false=true->b.getD i false=true
 | [],[],_,_,h=>h
 | _::_,_::_,0,h,e=>h.1 e
 | _::_,_::_,i+1,h,e=>by
  simp only[List.getD_cons_succ]at e ⊢;exact h.2.get i e
 | [],_::_,_,h,_=>h.elim
 | _::_,[],_,h,_=>h.elim
theorem Le.of:∀ {a b:List Bool},a.length=b.length->(∀i,a.getD i false=true->b.getD i false=true)->Le a b
 | [],[],_,_=>trivial
 | x::a,y::b,h,k=>⟨fun e=>k 0 e,Le.of (by simpa using h) fun i e=>by simpa using k (i+1) (by simpa using e)⟩
 | [],_::_,h,_=>by simp at h
 | _::_,[],h,_=>by simp at h
theorem Le.set:∀(s:List Bool) (i:Nat),Le s (s.set i true)
 | [],_=>trivial
 | _::s,0=>⟨fun _=>rfl,Le.refl s⟩
 | _::s,i+1=>⟨id,Le.set s i⟩
def ct (s:List Bool):Nat:=s.count true
theorem Le.ct:∀ {a b:List Bool},Le a b->ct a<=ct b
 | [],[],_=>Nat.le_refl _
 | x::a,y::b,h=>by
  have:=h.2.ct
  unfold Gm.ct at *;cases x <;> cases y <;> simp_all [Le] <;> omega
 | [],_::_,h=>h.elim
 | _::_,[],h=>h.elim
theorem Le.ct_eq:∀ {a b:List Bool},Le a b->Gm.ct b<=Gm.ct a->a=b
 | [],[],_,_=>rfl
 | x::a,y::b,h,k=>by
  have h2:=h.2.ct;have h3:=h.2.ct_eq;unfold Gm.ct at *;cases x <;> cases y <;> simp_all [Le] <;> omega
 | [],_::_,h,_=>h.elim
 | _::_,[],h,_=>h.elim
theorem zmo (s:List Bool):ct s<=s.length:=List.count_le_length
def aW (f:List Bool->List Bool):Nat->List Bool->List Bool
 | 0,s=>s
 | n+1,s=>f (aW f n s)
theorem zbb {f:List Bool->List Bool} (h:∀s,Le s (f s)) (n:Nat) (s:List Bool):Le s (aW f n s):=by
 induction n with
 | zero=>exact Le.refl s
 | succ n ih=>exact ih.trans (h _)
theorem zbO {f:List Bool->List Bool} (h:∀s,Le s (f s)) (s:List Bool):f (aW f s.length s)=aW f s.length s:=by
 have key:∀n,f (aW f n s)=aW f n s\/n<=ct (aW f n s):=by
  intro n;induction n with
  | zero=>exact .inr (Nat.zero_le _)
  | succ n ih =>
   by_cases hf:f (aW f n s)=aW f n s
   ·left;show f (f (aW f n s))=f (aW f n s);rw[hf,hf]
   ·right
    rcases ih with ih|ih
    ·exact absurd ih hf
    ·have h1:=(h (aW f n s)).ct;have h2:¬ct (f (aW f n s))<=ct (aW f n s):=fun hc=>hf ((h _).ct_eq hc).symm
     show n+1<=ct (f (aW f n s))
     omega
 rcases key s.length with h1|h1
 ·exact h1
 ·refine((h _).ct_eq ?_).symm
  have:=(zbb h s.length s).len
  have h2:=zmo (f (aW f s.length s));have h3:=(h (aW f s.length s)).len;omega
theorem za3 {α:Type} (g:List Bool->α->List Bool) (h:∀s x,Le s (g s x)):∀(xs:List α) (s:List Bool),Le s (xs.foldl g s)
 | [],s=>Le.refl s
 | x::xs,s=>(h s x).trans (za3 g h xs _)
theorem zbh {α:Type} (g:List Bool->α->List Bool) (h:∀s x,Le s (g s x)):∀(xs:List α) (s:List Bool),xs.foldl g s=s->∀x∈xs,g s x=s
 | [],_,_=>by simp
 | x::xs,s,e=>by
  have h1:Le (g s x) s:=by
   have:=za3 g h xs (g s x)
   rw[List.foldl_cons]at e
   rwa [e]at this
  have h2:g s x=s:=h1.anti (h s x);intro y hy;rcases List.mem_cons.1 hy with rfl|hy
  ·exact h2
  ·rw[List.foldl_cons,h2]at e;exact zbh g h xs s e y hy
def allB (tm:Bool) (is:List Bool) (r:List Int):Bool:=r.all fun z=>if 0<=z then tm else is.getD (-1-z).toNat false
def Snd (tm:Bool) (rs:List Rl) (is:List Bool):Prop:=∀i:Nat,is.getD i false=true->Gn tm rs (i:Int)
def Cls (tm:Bool) (rs:List Rl) (is:List Bool):Prop:=∀x∈rs,allB tm is x.r=true->is.getD x.l.toNat false=true
theorem Snd.none (tm:Bool) (rs:List Rl) (n:Nat):Snd tm rs (List.replicate n false):=fun i h=>by
 rw[List.getD_eq_getElem?_getD,List.getElem?_replicate]at h;split at h <;> cases h
theorem Snd.all {tm:Bool} {rs:List Rl} {is:List Bool} (h:Snd tm rs is) {r:List Int} (e:allB tm is r=true):Al tm rs r:=by
 unfold allB at e;rw[List.all_eq_true]at e;refine⟨fun z hz h0=>?_,fun z hz h0=>?_⟩
 ·have:=e z hz
  rwa [if_pos h0]at this
 ·have:=e z hz
  rw[if_neg (by omega)]at this
  have:=h _ this
  rwa [Int.toNat_of_nonneg (by omega)]at this
theorem getD_set (s:List Bool) (i j:Nat) (h:(s.set i true).getD j false=true):s.getD j false=true\/j=i:=by
 by_cases e:i=j
 ·exact .inr e.symm
 ·left
  rwa [List.getD_eq_getElem?_getD,List.getElem?_set_ne e,<-List.getD_eq_getElem?_getD]at h
theorem set_getD (s:List Bool) (i:Nat) (h:i<s.length):(s.set i true).getD i false=true:=by
 simp[List.getD_eq_getElem?_getD,h]
theorem Snd.set {tm:Bool} {rs:List Rl} {is:List Bool} (h:Snd tm rs is) {x:Rl} (hx:x∈rs) (h0:0<=x.l) (e:allB tm is x.r=true):Snd tm rs (is.set x.l.toNat true):=fun i hi=>by
 rcases getD_set _ _ _ hi with h1|h1
 ·exact h i h1
 ·subst h1;rw[Int.toNat_of_nonneg h0];exact Gn.of hx (h.all e)
def Lin (n:Nat) (rs:List Rl):Prop:=∀x∈rs,0<=x.l/\x.l<(n:Int)
theorem zli {tm:Bool} {rs:List Rl} {is:List Bool} (h:Cls tm rs is) {j:Int} (hj:Gn tm rs j):is.getD j.toNat false=true:=by
 induction hj with
 | mk x hx ht _ ih =>
  refine h x hx ?_;unfold allB;rw[List.all_eq_true];intro z hz;by_cases h0:0<=z
  ·rw[if_pos h0];exact ht z hz h0
  ·rw[if_neg h0];exact ih z hz (by omega)
theorem gn_row {tm:Bool} {rs:List Rl} {n:Nat} {is:List Bool} (hn:is.length=n) (hs:Snd tm rs is) (hc:Cls tm rs is):is=gn tm rs n:=by
 refine List.ext_getElem (by rw[hn,gn_len]) fun i h1 h2=>?_;have e1:is.getD i false=is[i]:=by simp[List.getD_eq_getElem?_getD,h1]
 have e2:(gn tm rs n).getD i false=(gn tm rs n)[i]:=by simp[List.getD_eq_getElem?_getD,h2]
 rw[<-e1,<-e2,gn_at _ _ _ _ (by omega)];rw[Bool.eq_iff_iff,tr_iff];refine⟨hs i,fun h=>?_⟩
 have:=zli hc h
 simpa using this
def zei (tm:Bool) (is:List Bool) (x:Rl):List Bool:=if allB tm is x.r=true then is.set x.l.toNat true else is
def zg0 (tm:Bool) (rs:List Rl) (is:List Bool):List Bool:=rs.foldl (zei tm) is
theorem zeQ (tm:Bool) (is:List Bool) (x:Rl):Le is (zei tm is x):=by
 unfold zei;split
 ·exact Le.set _ _
 ·exact Le.refl _
theorem zeO {tm:Bool} {rs:List Rl} {n:Nat} (hl:Lin n rs):∀(xs:List Rl) (is:List Bool),(∀x∈xs,x∈rs)->Snd tm rs is->Snd tm rs (xs.foldl (zei tm) is)
 | [],_,_,h=>h
 | x::xs,is,hx,h=>by
  refine zeO hl xs _ (fun y hy=>hx y (List.mem_cons_of_mem _ hy)) ?_;unfold zei;split
  ·rename_i e
   exact h.set (hx x (List.mem_cons_self ..)) (hl x (hx x (List.mem_cons_self ..))).1 e
  ·exact h
theorem zfZ {tm:Bool} {rs:List Rl} {n:Nat} (hl:Lin n rs) (k:Nat) {is:List Bool} (h:Snd tm rs is):Snd tm rs (aW (zg0 tm rs) k is):=by
 induction k with
 | zero=>exact h
 | succ k ih=>exact zeO hl rs _ (fun _ h=>h) ih
theorem zjN {tm:Bool} {rs:List Rl} {n:Nat} (hl:Lin n rs) {is:List Bool} (hn:is.length=n) (h:zg0 tm rs is=is):Cls tm rs is:=fun x hx e=>by
 have:=zbh (zei tm) (zeQ tm) rs is h x hx
 unfold zei at this;rw[if_pos e]at this;rw[<-this]
 have:=hl x hx
 exact set_getD _ _ (by omega)
theorem grow_gn {tm:Bool} {rs:List Rl} {n:Nat} (hl:Lin n rs):aW (zg0 tm rs) n (List.replicate n false)=gn tm rs n:=by
 have hle:∀s,Le s (zg0 tm rs s):=fun s=>za3 _ (zeQ tm) rs s;have h0:(List.replicate n false).length=n:=by simp
 have h1:(aW (zg0 tm rs) n (List.replicate n false)).length=n:=by rw[<-(zbb hle n _).len,h0]
 refine gn_row h1 (zfZ hl n (Snd.none tm rs n)) (zjN hl h1 ?_)
 have:=zbO hle (List.replicate n false)
 rwa [h0]at this
end Gm
end Go.Proofs.YtcmhaemaophplaaGreat
