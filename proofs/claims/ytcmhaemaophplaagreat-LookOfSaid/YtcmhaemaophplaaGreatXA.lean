/- Part of the proofs over this program: Shared, WordsI, WordsB, Bytes, GramL, LexL, GmL, Calm, CfgLeaf, Shelf, LexFn, LexStr, LexRef. -/
import Derived.Test.YtcmhaemaophplaaGreatProg
import Derived.WalkKit
import Derived.WalkSpells
import Derived.WalkLawsBesides
import Derived.Deep.Draws
import Derived.BigQuiet
import Derived.Deep.QuietTactic
import Derived.RegionTactic
import Derived.Deep.DeepFit
import Derived.Deep.RegionWith
import Derived.Laws.CopyOwn
import Derived.Laws.OwnMore
import Derived.OwnWalk
import Derived.ProofKit
import Derived.OpenShut
import Derived.Laws.IdiomStrings
import Derived.Lib.IndexLaws
import Derived.Lib.IndexMore
import Derived.Lib.Strings
import Derived.Lib.Bytes
import Derived.Lib.Index
import Derived.OrdersHeld
import Derived.IntWalk
import Derived.Shelf.Small.Bits
import Derived.Shelf.Small.Wraps
import Derived.Shelf.Strconv.Itoa0
import Derived.Shelf.Strings.Prefix
set_option linter.all false
namespace Go
def Aj:=@Nat.le_trans
def Bs:=@Go.RowKit.Below.heap_alloc
def Ah:=@Nat.lt_of_lt_of_le
def AU:=@Go.RowKit.Below.heap_setCell
def CZ:=@Go.run_underlying
def Cp:=@List.ext_getElem
def AL:=@List.take_succ_eq_append_getElem
def BM:=@List.getElem?_append_left
def Ce:=@List.getElem?_append_right
def DB:=@List.set_append_right
def BV:=@List.drop_eq_getElem_cons
def AF:=@Go.cell_of_row
def Af:=@Nat.le_refl
def Eo:=@Go.World.cell?_alloc_lt
def Ca:=@Go.World.cell?_of_block
def Bd:=@List.length_take
def Di:=@List.getElem_take
def Bx:=@Nat.lt_or_ge
def Ee:=@Array.getElem?_eq_none
def AH:=@Go.frozen_of_row
def AG:=@Go.heap_alloc_new
def AZ:=@Go.heap_setCell_same
def Ep:=@Array.ext'
def Cv:=@List.map_set
def Dt:=@List.getElem_drop
def AB:=@Go.RowKit.Below.refl
def Da:=@Go.World.ownsRow_nil
def C5:=@Go.World.ownsRow.alloc
def Ad:=@Array.getElem?_eq_some_iff
def CE:=@Go.World.ownsRow.cells
def Cf:=@List.take_of_length_le
def Cs:=@Go.info_parts
def DG:=@Nat.mul_one
def DU:=@Go.toList_madeCells_one
def CT:=@Go.wpList_append_own
def AW:=@List.length_append
def Bf:=@List.map_append
def CY:=@Nat.eq_zero_or_pos
def BB:=@List.eq_nil_of_length_eq_zero
def Es:=@Go.wpList_plain
def AJ:=@Go.World.grownBy.refl
def Bc:=@List.getElem?_eq_some_iff
def DI:=@Option.some.inj
def Bv:=@List.getElem?_map
def AD:=@List.getElem?_eq_getElem
def Bm:=@List.mem_map
def Bk:=@Go.World.ownsRow.lt
def Bo:=@List.mem_cons_of_mem
def Br:=@List.mem_cons_self
def Bt:=@List.mem_append
def DV:=@List.mem_of_mem_take
def CV:=@List.mem_of_mem_drop
def AE:=@List.getElem_mem
def Dz:=@List.mem_or_eq_of_mem_set
def Bl:=@List.length_drop
def C3:=@List.getElem_map
def BP:=@List.all_eq_true
def AI:=@if_neg
def Bh:=@List.length_map
def Ef:=@List.map_map
def B6:=@List.getElem_append_left
def BU:=@List.drop_eq_nil_of_le
def AC:=@if_pos
def Bw:=@Bool.eq_iff_iff
def Bb:=@Bool.and_eq_true
def Bi:=@decide_eq_true_eq
def Cn:=@List.cons_append
def Df:=@Option.map_eq_some_iff
def Bz:=@List.map_cons
def Du:=@List.map_nil
def Ba:=@beq_eq_false_iff_ne
def BC:=@List.length_cons
def Bu:=@List.mem_cons
def BW:=@Classical.byContradiction
def BF:=@List.getElem_of_mem
def Et:=@Go.Sem.run_bind
def Dl:=@Go.Sem.run_pure
def Eg:=@List.length_nil
def BG:=@Nat.zero_add
def B3:=@Go.IntWalk.i64_in
def AM:=@decide_eq_false
def Dy:=@Go.Calls.quiet_of_same
def BJ:=@beq_iff_eq
def CP:=@Go.ByteArray.toList_eq
def AV:=@Nat.zero_le
def AQ:=@decide_eq_true
def ER:=@Bool.or_false
def Dv:=@Bool.eq_false_iff
def Ck:=@Bool.true_and
def CI:=@Bool.false_and
end Go
open Go.RowKit Go.Proofs.Tryz
set_option maxRecDepth 100000
set_option maxHeartbeats 40000000
variable {A:Option Go.Addr} {B B' base base' g k n:Nat} {P:Go.Program} {fr:Nat×Nat} {l ls r zs:List Int} {ns:List (List Int)} {ops:Array Go.Oper} {p:Go.Addr} {v:Go.Value} {w w':Go.World} {z:Int}
namespace Go.Proofs.YtcmhaemaophplaaGreat
theorem _root_.Go.RowKit.Hid.o {p:Prop} (h:Go.RowKit.Hid p):p:=h
end Go.Proofs.YtcmhaemaophplaaGreat

namespace Go.Proofs.YtcmhaemaophplaaGreat
theorem aA {p:Prop} (h:p):Hid p:=h
theorem Gp {a:World} {row:Option Nat} (h:a.grownBy w row) (n:Nat):a.grownBy (w.drewN n) row:=⟨h.os,h.tape,h.output,h.size,h.block⟩
theorem aL {a:World} {row:Option Nat} (h:a.grownBy w row) (o:Obj):a.grownBy (w.alloc o) row :=
 ⟨h.os,h.tape,h.output,Aj h.size (by simp),fun i hi aa=>(Bs w o i (Ah hi h.size)).trans (h.block i hi aa)⟩
theorem aF {a:World} (h:a.grownBy w (some g)) (i:Nat) (u:Value):a.grownBy (w.setCell ⟨g,i,none⟩ u) (some g) :=
 ⟨h.os,h.tape,h.output,by simpa[World.setCell] using h.size,fun k hk aa=>(AU w ⟨g,i,none⟩ u k (by rintro rfl;exact aa rfl)).trans (h.block k hk aa)⟩
theorem qO {a b c:World} {row:Option Nat} (h:a.grownBy b row) (k:b.grownBy c row):a.grownBy c row :=
 ⟨k.os.trans h.os,k.tape.trans h.tape,k.output.trans h.output,Aj h.size k.size,fun i hi aa=>(k.block i (Ah hi h.size) aa).trans (h.block i hi aa)⟩
theorem aK {a:World} (h:Below a.heap.size a w) (row:Option Nat):a.grownBy w row:=⟨h.os,h.tape,h.output,h.size,fun i hi _=>h.block i hi⟩
theorem pF {a:World} (h:Below B a w) (hg:w.grownBy w' (some g)) (hB:B<=g) (hs:B<=w.heap.size):Below B a w' :=
 h.grown hg hs (fun k e=>by injection e with e;omega)
theorem aB {a:World} (h:Below B a w) (n:Nat):Below B a (w.drewN n):=⟨h.os,h.tape,h.output,h.size,h.block⟩
theorem aU {k:IntKind} {a b:Int} (h:a=b):Ending.returned (.int k a)=.returned (.int k b):=by rw[h]
theorem aE {a b:Bool} (h:a=b):Ending.returned (.bool a)=.returned (.bool b):=by rw[h]
theorem zg (w:World) (base:Nat) (t ty e:TypeId) (i:TypeInfo) (size:Nat) (ht:P.underlying t=some (.slice e)) (hi:P.info? e=some i) (v:Value) (n:Nat) (xs:List Value) (aa:w.ownsRow base e size v n xs) (c:Nat) :
  (Builtin.append_ #[t,t] ty #[v,.slice none 0 c]).run P w=.ok v w:=by
 rcases aa.2 with⟨rfl,rfl⟩|⟨g,cap,cur,rfl,_,_,ab,_⟩
 ·simp[Builtin.append_,CZ ht,sizeOf,typeInfo,hi,Builtin.lenOf,Builtin.firstCells]
 ·simp[Builtin.append_,CZ ht,sizeOf,typeInfo,hi,Builtin.lenOf,Builtin.firstCells,ab,storeCells]
theorem L.fy (h:k<l.length):l.getD k 0=l[k]:=by simp[List.getD,h]
theorem L.E9 (h:l.length<=k):l.getD k 0=0:=by simp[List.getD,h]
theorem L.uj {m:List Int} (h:l.length=m.length) (k:∀i,i<l.length->l.getD i 0=m.getD i 0):l=m:=by
 apply Cp h;intro i h1 h2
 have:=k i h1
 rwa [L.fy h1,L.fy h2]at this
theorem L.jB (l:List Int) (k:Nat) (h:k<l.length):l.take (k+1)=l.take k++[l.getD k 0]:=by
 rw[L.fy h,AL h]
theorem L.jU (pre xs post:List Int) (k:Nat) (h:k<xs.length):(pre++xs++post).getD (pre.length+k) 0=xs.getD k 0:=by
 simp only[List.getD];rw[BM (by simp;omega),Ce (by omega),show pre.length+k-pre.length=k by omega]
theorem L.lj (pre xs post:List Int) (k:Nat) (z:Int) (h:k<xs.length):(pre++xs++post).set (pre.length+k) z=pre++xs.set k z++post:=by
 rw[List.set_append_left _ _ (by simp;omega),DB _ _ (by omega),show pre.length+k-pre.length=k by omega]
theorem L.fM (l:List Int) (k:Nat) (h:k<l.length):l.drop k=l.getD k 0::l.drop (k+1):=by
 rw[L.fy h,BV h]
theorem aS {a:Value} {l:List Value} {T:TypeId} (h:w.heap[g]?=some (.cells (List.toArray (a::l)) T fr)):w.cell? ⟨g,0,none⟩=some a:=AF w g 0 _ _ _ h
theorem aX {a b:Value} {l:List Value} {T:TypeId} (h:w.heap[g]?=some (.cells (List.toArray (a::b::l)) T fr)):w.cell? ⟨g,1,none⟩=some b:=AF w g 1 _ _ _ h
theorem aY {a b c:Value} {l:List Value} {T:TypeId} (h:w.heap[g]?=some (.cells (List.toArray (a::b::c::l)) T fr)):w.cell? ⟨g,2,none⟩=some c:=AF w g 2 _ _ _ h
theorem bI {a b c d:Value} {l:List Value} {T:TypeId} (h:w.heap[g]?=some (.cells (List.toArray (a::b::c::d::l)) T fr)):w.cell? ⟨g,3,none⟩=some d:=AF w g 3 _ _ _ h
theorem rU {a b c d e:Value} {l:List Value} {T:TypeId} (h:w.heap[g]?=some (.cells (List.toArray (a::b::c::d::e::l)) T fr)):w.cell? ⟨g,4,none⟩=some e:=AF w g 4 _ _ _ h
theorem rT {a b c d e f:Value} {l:List Value} {T:TypeId} (h:w.heap[g]?=some (.cells (List.toArray (a::b::c::d::e::f::l)) T fr)):w.cell? ⟨g,5,none⟩=some f:=AF w g 5 _ _ _ h
theorem xw {a b c d e f i:Value} {l:List Value} {T:TypeId} (h:w.heap[g]?=some (.cells (List.toArray (a::b::c::d::e::f::i::l)) T fr)):w.cell? ⟨g,6,none⟩=some i:=AF w g 6 _ _ _ h
theorem GX {a b c d e f i j:Value} {l:List Value} {T:TypeId} (h:w.heap[g]?=some (.cells (List.toArray (a::b::c::d::e::f::i::j::l)) T fr)):w.cell? ⟨g,7,none⟩=some j:=AF w g 7 _ _ _ h
open Go.RowKit Go.ChangeShapes Go.WideShapes Go.ChangeAt
def gd (w:World) (B:Nat) (A:Option Addr) (zs:List Int):Prop :=
 zs.length≠0->∃g o,A=some ⟨g,o,none⟩/\g<B/\∀j,j<zs.length->w.cell? ⟨g,o+j,none⟩=some (.int .i64 (zs.getD j 0))
theorem gd.nil (w:World) (B:Nat) (A:Option Addr):gd w B A []:=fun h=>absurd rfl h
theorem gd.fp (h:gd w B A zs) (hk:∀g o,g<B->w'.cell? ⟨g,o,none⟩=w.cell? ⟨g,o,none⟩):gd w' B A zs:=fun hn=>by
 obtain⟨g,o,e,hg,hc⟩:=h hn;exact⟨g,o,e,hg,fun j hj=>(hk _ _ hg).trans (hc j hj)⟩
theorem gd.more (h:gd w B A zs) (hB:B<=B'):gd w B' A zs:=fun hn=>by
 obtain⟨g,o,e,hg,hc⟩:=h hn;exact⟨g,o,e,by omega,hc⟩
theorem gd.below (h:gd w B A zs) (hb:Below B' w w') (hB:B<=B'):gd w' B A zs :=
 h.fp fun g o hg=>hb.cell (p:=⟨g,o,none⟩) (Ah hg hB)
theorem gd.up (h:gd w w.heap.size A zs) (hb:Below w.heap.size w w'):gd w' w'.heap.size A zs:=(h.below hb (Af _)).more hb.size
theorem gd.drewN (h:gd w B A zs) (n:Nat):gd (w.drewN n) B A zs:=h
theorem gd.drew (h:gd w B A zs):gd w.drew B A zs:=h
theorem gd.alloc (h:gd w B A zs) (hB:B<=w.heap.size) (o:Obj):gd (w.alloc o) B A zs :=
 h.fp fun g i hg=>Eo w o ⟨g,i,none⟩ (Ah hg hB)
theorem gd.grown (h:gd w B A zs) (hg:w.grownBy w' (some g)) (hB:B<=g) (hs:B<=w.heap.size):gd w' B A zs :=
 h.fp fun p o hp=>Ca (hg.block p (by omega) (fun e=>by injection e with e;omega))
theorem gd.take {w:World} {B:Nat} {A:Option Addr} {zs:List Int} (h:gd w B A zs) (k:Nat):gd w B A (zs.take k):=fun hn=>by
 have hl:(zs.take k).length<=zs.length:=by rw[Bd];omega
 obtain⟨g,o,e,hg,hc⟩:=h (by omega);refine⟨g,o,e,hg,fun j hj=>?_⟩;rw[hc j (by omega),L.fy hj,L.fy (by omega:j<zs.length),Di]
theorem gd.cell {o:Nat} (h:gd w B (some ⟨g,o,none⟩) zs) (j:Nat) (hj:j<zs.length):w.cell? ⟨g,o+j,none⟩=some (.int .i64 (zs.getD j 0)):=by
 obtain⟨g',o',e,_,hc⟩:=h (by omega);injection e with e;injection e with e1 e2;subst e1 e2;exact hc j hj
def iF (w:World) (g:Nat) (ls:List Int):Prop:=w.heap[g]?=some (.cells (ls.map (Value.int .i64)).toArray 3 (0,0))
theorem iF.lt (h:iF w g ls):g<w.heap.size:=by
 rcases Bx g w.heap.size with aa|hge
 ·exact aa
 ·unfold iF at h;rw[Ee hge]at h;cases h
theorem iF.cell (h:iF w g ls) (i:Nat) (hi:i<ls.length):w.cell? ⟨g,i,none⟩=some (.int .i64 (ls.getD i 0)):=by
 rw[AF w g i _ _ _ h];simp[hi,List.getD]
theorem iF.frozen (h:iF w g ls) (i:Nat):w.frozen? ⟨g,i,none⟩=false:=AH w g i _ _ h
theorem iF.new (w:World) (ls:List Int):iF (w.alloc (.cells (ls.map (Value.int .i64)).toArray 3)) w.heap.size ls:=AG w _
theorem iF.drewN (h:iF w g ls) (n:Nat):iF (w.drewN n) g ls:=h
theorem iF.drew (h:iF w g ls):iF w.drew g ls:=h
theorem iF.alloc (h:iF w g ls) (o:Obj):iF (w.alloc o) g ls:=(Bs w o g h.lt).trans h
theorem iF.jY (h:iF w g ls) (i:Nat) (z:Int):iF (w.setCell ⟨g,i,none⟩ (.int .i64 z)) g (ls.set i z):=by
 unfold iF at h ⊢;rw[AZ w g i _ _ _ h]
 congr 2
 apply Ep;simp[Cv]
theorem iF.jr (h:iF w g ls) (hp:g≠p.block) (u:Value):iF (w.setCell p u) g ls:=(AU w p u g hp).trans h
theorem iF.below (h:iF w g ls) (hb:Below B w w') (hg:g<B):iF w' g ls:=(hb.block g hg).trans h
theorem iF.grown {row:Option Nat} (h:iF w g ls) (hb:w.grownBy w' row) (hg:some g≠row):iF w' g ls:=(hb.block g h.lt hg).trans h
theorem iF.zD {o:Nat} {pre xs post:List Int} (h:iF w g (pre++xs++post)) (ho:o=pre.length) (k:Nat) (hk:k<xs.length):w.cell? ⟨g,o+k,none⟩=some (.int .i64 (xs.getD k 0)):=by
 rw[h.cell (o+k) (by simp;omega),ho,L.jU pre xs post k hk]
theorem iF.rd (h:iF w g ls) (o n:Nat) (hn:o+n<=ls.length) (hB:g<B):gd w B (some ⟨g,o,none⟩) ((ls.drop o).take n):=fun _=>by
 refine⟨g,o,rfl,hB,fun j hj=>?_⟩;have aa:j<n:=by rw[Bd]at hj;omega
 rw[h.cell (o+j) (by omega),L.fy hj,L.fy (by omega:o+j<ls.length),Di,Dt]
theorem iF.o4 (h:iF w g ls) (hB:g<B):gd w B (some ⟨g,0,none⟩) ls:=by
 have:=h.rd 0 ls.length (by omega) hB;simpa using this
theorem I3:(prog.info? 3).map (fun i=>(i.zero,i.size,i.bytes))=some (some (.int .i64 0),1,8):=by kernel_rfl
theorem M7 (n:Nat):(List.replicate n (0:Int)).map (Value.int .i64)=List.replicate n (.int .i64 0):=by simp
def tR (ls:List Int):Obj:=.cells (ls.map (Value.int .i64)).toArray 3
theorem zY (w:World) (b:List Int):gd (w.alloc (tR b)) (w.alloc (tR b)).heap.size (some ⟨w.heap.size,0,none⟩) b/\Below w.heap.size w (w.alloc (tR b)) :=
 ⟨(iF.new w b).o4 (by simp),(AB _ _).alloc (Af _) _⟩
def aV (w:World) (base:Nat) (v:Value) (xs:List Int):Prop:=w.ownsRow base 3 1 v xs.length (xs.map (Value.int .i64))
theorem aV.nil (w:World) (base:Nat):aV w base (.slice none 0 0) []:=Da w base _ _
theorem aV.alloc {xs:List Int} (h:aV w base v xs) (o:Obj):aV (w.alloc o) base v xs:=C5 h o
theorem aV.drewN {xs:List Int} (h:aV w base v xs) (n:Nat):aV (w.drewN n) base v xs:=h
theorem aV.below {xs:List Int} (h:aV w base v xs) (hb:Below B w w') (hB:w.heap.size<=B):aV w' base v xs:=by
 refine⟨h.1,?_⟩;rcases h.2 with h0|⟨g,cap,cur,e,aa,hg,hr⟩
 ·exact .inl h0
 ·exact .inr ⟨g,cap,cur,e,aa,(hb.block g (Ah (Ad.1 hg).1 hB)).trans hg,hr⟩
theorem aV.form {xs:List Int} (h:aV w base v xs):∃A c,v=.slice A xs.length c/\xs.length<=c/\c<=maxLen/\gd w w.heap.size A xs:=by
 rcases h.2 with⟨rfl,h0⟩|⟨g,cap,cur,rfl,hb,hg,hn,hm,hs,ht⟩
 ·exact⟨none,0,by rw[h0],by omega,by unfold maxLen;omega,fun hc=>absurd h0 hc⟩
 ·refine⟨some ⟨g,0,none⟩,cap,rfl,hn,hm,fun _=>⟨g,0,rfl,?_,fun j hj=>?_⟩⟩
  ·exact(Ad.1 hg).1
  ·have hc:=CE h (g:=g) rfl j (.int .i64 (xs.getD j 0)) (by simp[hj,List.getD]);have e:((⟨g,0,none⟩:Addr).add j)=⟨g,0+j,none⟩:=by unfold Addr.add;by_cases h0:j=0 <;> simp[h0]
   rw[e]at hc;exact hc
theorem aV.mono {xs:List Int} (h:aV w base v xs) (hb:base'<=base):aV w base' v xs:=by
 refine⟨h.1,?_⟩;rcases h.2 with h0|⟨g,cap,cur,e,aa,hr⟩
 ·exact .inl h0
 ·exact .inr ⟨g,cap,cur,e,by omega,hr⟩
theorem aV.addr {xs:List Int} (h:aV w base v xs) (h0:xs.length≠0):∃g c,v=.slice (some ⟨g,0,none⟩) xs.length c/\xs.length<=c/\c<=maxLen/\base<=g:=by
 rcases h.2 with⟨_,h1⟩|⟨g,cap,cur,rfl,hb,hg,hn,hm,hs,ht⟩
 ·exact absurd h1 h0
 ·exact⟨g,cap,rfl,hn,hm,hb⟩
theorem aV.cellAt {w:World} {base g n c:Nat} {xs:List Int} (h:aV w base (.slice (some ⟨g,0,none⟩) n c) xs) (hn:n=xs.length) (j:Nat) (hj:j<xs.length):w.cell? ⟨g,j,none⟩=some (.int .i64 (xs.getD j 0)):=by
 subst hn;rw[World.ownsRow.cellAt h j (by omega)];simp[hj,List.getD]
theorem M8 (h:w.ownsRow base 3 1 (.slice (some ⟨g,0,none⟩) n n) n (ls.map (Value.int .i64))):iF w g ls:=by
 rcases h.2 with⟨he,_⟩|⟨g',cap,cur,he,hb,hg,hn,hm,hs,ht⟩
 ·cases he
 ·injection he with e1 e2 e3;injection e1 with e1;injection e1 with e1;subst e1 e3;unfold iF;rw[hg,<-ht,Cf (by simp[hs])]
theorem IJ {rest:List Oper} {o:Oper} {a:Act} {Q:Exit->Act->World->Prop} (hg:o.guard=none) (l c:Operand) (t:TypeId) (ac:o.op=Op.makeSlice t l c) (ht:prog.underlying t=some (.slice 3)) (n:Nat) (L C:Int) (hl:a.eval l=.int .i64 L) (hc:a.eval c=.int .i64 C) (hL:L=(n:Int)) (hC:C=(n:Int)) (hn:n<=35184372088832) (hK:∀w',iF w' w.heap.size (List.replicate n 0)->Below w.heap.size w w'->w.heap.size<w'.heap.size->wpList prog ops Q rest (a.put o.dst (.slice (some ⟨w.heap.size,0,none⟩) n n)) w') :
  wpList prog ops Q (o::rest) a w:=by
 obtain⟨i,hi,ad,ae,af⟩:=Cs I3;refine wpList_make_full w hg l c t ac w.heap.size 3 i (.int .i64 0) 1 ht hi ad ae .i64 .i64 L C n hl hc hL hC (by rw[af];omega) (by unfold maxLen;omega) (Af _) fun w' aa b=>?_
 have ab:iF w' w.heap.size (List.replicate n 0):=by
  refine M8 (base:=w.heap.size) (n:=n) ?_;rw[M7]
  have e:(madeCells (Value.int IntKind.i64 0).cells (n*1)).toList=List.replicate n (Value.int .i64 0):=by
   rw[DG];exact DU _ _
  rw[e]at aa;exact aa
 exact hK w' ab ⟨b.os,b.tape,b.output,b.size,fun k hk=>b.block k hk (by simp)⟩ ab.lt
theorem xQ {rest:List Oper} {o:Oper} {a:Act} {Q:Exit->Act->World->Prop} (ac:o.guard=none) (s x:Operand) (t:TypeId) (ho:o.op=.call {callee:=.builtin .append,args:=#[s,x],argTypes:=#[t,t]}) (ht:prog.underlying t=some (.slice 3)) (base:Nat) (v:Value) (xs:List Int) (hs:a.eval s=v) (ab:aV w base v xs) (g c:Nat) (z:Int) (hx:a.eval x=.slice (some ⟨g,0,none⟩) 1 c) (hz:w.cell? ⟨g,0,none⟩=some (.int .i64 z)) (ad:xs.length<=1000000000000) (aa:base<=w.heap.size) (hK:∀v' w',aV w' base v' (xs++[z])->w.grownBy w' v.ownBlock->wpList prog ops Q rest (a.put o.dst v') w') :
  wpList prog ops Q (o::rest) a w:=by
 obtain⟨i,hi,ae,af,ag⟩:=Cs I3;refine CT w ac s x t ho base 3 i (.int .i64 0) 1 8 ht hi ae af ag rfl (by decide) v xs.length (xs.map (Value.int .i64)) hs ab ⟨g,0,none⟩ 1 c [.int .i64 z] hx rfl ?_ ?_ (by unfold maxLen;omega) (by omega) aa fun v' w' h1 h2 _=>hK v' w' ?_ h2
 ·intro j u hj
  match j,hj with
  | 0,hj=>simp at hj;subst hj;simpa[Addr.add] using hz
  | j+1,hj=>simp at hj
 ·intro u hu;simp at hu;subst hu;rfl
 ·unfold aV;rw[AW,Bf];exact h1
theorem QI {rest:List Oper} {o:Oper} {a:Act} {Q:Exit->Act->World->Prop} (af:o.guard=none) (s x:Operand) (t:TypeId) (ho:o.op=.call {callee:=.builtin .append,args:=#[s,x],argTypes:=#[t,t]}) (ht:prog.underlying t=some (.slice 3)) (base:Nat) (v:Value) (xs:List Int) (hs:a.eval s=v) (aa:aV w base v xs) (B m c:Nat) (A:Option Addr) (zs:List Int) (hx:a.eval x=.slice A m c) (hm:m=zs.length) (hr:gd w B A zs) (ag:xs.length+zs.length<=1000000000000) (ab:base<=w.heap.size) (hK:∀v' w',aV w' base v' (xs++zs)->w.grownBy w' v.ownBlock->wpList prog ops Q rest (a.put o.dst v') w') :
  wpList prog ops Q (o::rest) a w:=by
 obtain⟨i,hi,ah,ai,aj⟩:=Cs I3;subst hm;rcases A with _|ad
 ·have hz:zs=[]:=by
   rcases CY zs.length with h0|h0
   ·exact BB h0
   ·obtain⟨g,o',h,_⟩:=hr (by omega);cases h
  subst hz;have ac:=zg (P:=prog) w base t o.type 3 i 1 ht hi v xs.length _ aa c;refine Es af fun K ak=>?_;unfold Oper.wp;simp[execOp,ho,resolve,invoke,builtin,hs,hx,ac,Result.andThen];exact ak _ _ (hK v w (by simpa using aa) (AJ _ _))
 ·refine CT w af s x t ho base 3 i (.int .i64 0) 1 8 ht hi ah ai aj rfl (by decide) v xs.length (xs.map (Value.int .i64)) hs aa ad zs.length c (zs.map (Value.int .i64)) hx (by simp) ?_ ?_ (by unfold maxLen;omega) (by omega) ab fun v' w' h1 h2 _=>hK v' w' ?_ h2
  ·intro j u hj;have ae:j<zs.length:=by have:=(Bc.1 hj).1;simpa using this
   obtain⟨g,o',h,_,hc⟩:=hr (by omega)
   replace h:=DI h
   subst h;have e:((⟨g,o',none⟩:Addr).add j)=⟨g,o'+j,none⟩:=by unfold Addr.add;by_cases h0:j=0 <;> simp[h0]
   rw[e,hc j ae];rw[Bv,AD ae]at hj;rw[L.fy ae];simpa using hj
  ·intro u hu;obtain⟨z,_,rfl⟩:=Bm.1 hu;rfl
  ·unfold aV;rw[AW,Bf];exact h1
theorem JN (w:World):aV (w.alloc (.cells #[] 3)) w.heap.size (.slice (some ⟨w.heap.size,0,none⟩) 0 0) []:=by
 have:=World.ownsRow_made (base:=w.heap.size) (e:=3) (size:=1) w #[] 0 (Af _) (by unfold maxLen;omega) rfl
 exact this
theorem Ht {a:World} {xs:List Int} (h:Below B a w) (ho:aV w B v xs) (hg:w.grownBy w' v.ownBlock) (hs:B<=w.heap.size):Below B a w' :=
 h.grown hg hs (fun k e=>(Bk ho k e).1)
def il (w:World) (B:Nat) (A:Option Addr) (zs:List Int):Prop :=
 zs.length≠0->∃g o,A=some ⟨g,o,none⟩/\g<B/\∀j,j<zs.length->w.cell? ⟨g,o+j,none⟩=some (.int .u8 (zs.getD j 0))
theorem il.nil (w:World) (B:Nat) (A:Option Addr):il w B A []:=fun h=>absurd rfl h
theorem il.fp (h:il w B A zs) (hk:∀g o,g<B->w'.cell? ⟨g,o,none⟩=w.cell? ⟨g,o,none⟩):il w' B A zs:=fun hn=>by
 obtain⟨g,o,e,hg,hc⟩:=h hn;exact⟨g,o,e,hg,fun j hj=>(hk _ _ hg).trans (hc j hj)⟩
theorem il.more (h:il w B A zs) (hB:B<=B'):il w B' A zs:=fun hn=>by
 obtain⟨g,o,e,hg,hc⟩:=h hn;exact⟨g,o,e,by omega,hc⟩
theorem il.below (h:il w B A zs) (hb:Below B' w w') (hB:B<=B'):il w' B A zs :=
 h.fp fun g o hg=>hb.cell (p:=⟨g,o,none⟩) (Ah hg hB)
theorem il.up (h:il w w.heap.size A zs) (hb:Below w.heap.size w w'):il w' w'.heap.size A zs:=(h.below hb (Af _)).more hb.size
theorem il.drewN (h:il w B A zs) (n:Nat):il (w.drewN n) B A zs:=h
theorem il.drew (h:il w B A zs):il w.drew B A zs:=h
theorem il.alloc (h:il w B A zs) (hB:B<=w.heap.size) (o:Obj):il (w.alloc o) B A zs :=
 h.fp fun g i hg=>Eo w o ⟨g,i,none⟩ (Ah hg hB)
theorem il.grown (h:il w B A zs) (hg:w.grownBy w' (some g)) (hB:B<=g) (hs:B<=w.heap.size):il w' B A zs :=
 h.fp fun p o hp=>Ca (hg.block p (by omega) (fun e=>by injection e with e;omega))
theorem il.take {w:World} {B:Nat} {A:Option Addr} {zs:List Int} (h:il w B A zs) (k:Nat):il w B A (zs.take k):=fun hn=>by
 have hl:(zs.take k).length<=zs.length:=by rw[Bd];omega
 obtain⟨g,o,e,hg,hc⟩:=h (by omega);refine⟨g,o,e,hg,fun j hj=>?_⟩;rw[hc j (by omega),L.fy hj,L.fy (by omega:j<zs.length),Di]
theorem il.cell {o:Nat} (h:il w B (some ⟨g,o,none⟩) zs) (j:Nat) (hj:j<zs.length):w.cell? ⟨g,o+j,none⟩=some (.int .u8 (zs.getD j 0)):=by
 obtain⟨g',o',e,_,hc⟩:=h (by omega);injection e with e;injection e with e1 e2;subst e1 e2;exact hc j hj
def jJ (w:World) (g:Nat) (ls:List Int):Prop:=w.heap[g]?=some (.cells (ls.map (Value.int .u8)).toArray 5 (0,0))
theorem jJ.lt (h:jJ w g ls):g<w.heap.size:=by
 rcases Bx g w.heap.size with aa|hge
 ·exact aa
 ·unfold jJ at h;rw[Ee hge]at h;cases h
theorem jJ.cell (h:jJ w g ls) (i:Nat) (hi:i<ls.length):w.cell? ⟨g,i,none⟩=some (.int .u8 (ls.getD i 0)):=by
 rw[AF w g i _ _ _ h];simp[hi,List.getD]
theorem jJ.frozen (h:jJ w g ls) (i:Nat):w.frozen? ⟨g,i,none⟩=false:=AH w g i _ _ h
theorem jJ.new (w:World) (ls:List Int):jJ (w.alloc (.cells (ls.map (Value.int .u8)).toArray 5)) w.heap.size ls:=AG w _
theorem jJ.drewN (h:jJ w g ls) (n:Nat):jJ (w.drewN n) g ls:=h
theorem jJ.drew (h:jJ w g ls):jJ w.drew g ls:=h
theorem jJ.alloc (h:jJ w g ls) (o:Obj):jJ (w.alloc o) g ls:=(Bs w o g h.lt).trans h
theorem jJ.jY (h:jJ w g ls) (i:Nat) (z:Int):jJ (w.setCell ⟨g,i,none⟩ (.int .u8 z)) g (ls.set i z):=by
 unfold jJ at h ⊢;rw[AZ w g i _ _ _ h]
 congr 2
 apply Ep;simp[Cv]
theorem jJ.jr (h:jJ w g ls) (hp:g≠p.block) (u:Value):jJ (w.setCell p u) g ls:=(AU w p u g hp).trans h
theorem jJ.below (h:jJ w g ls) (hb:Below B w w') (hg:g<B):jJ w' g ls:=(hb.block g hg).trans h
theorem jJ.grown {row:Option Nat} (h:jJ w g ls) (hb:w.grownBy w' row) (hg:some g≠row):jJ w' g ls:=(hb.block g h.lt hg).trans h
theorem jJ.zD {o:Nat} {pre xs post:List Int} (h:jJ w g (pre++xs++post)) (ho:o=pre.length) (k:Nat) (hk:k<xs.length):w.cell? ⟨g,o+k,none⟩=some (.int .u8 (xs.getD k 0)):=by
 rw[h.cell (o+k) (by simp;omega),ho,L.jU pre xs post k hk]
theorem jJ.rd (h:jJ w g ls) (o n:Nat) (hn:o+n<=ls.length) (hB:g<B):il w B (some ⟨g,o,none⟩) ((ls.drop o).take n):=fun _=>by
 refine⟨g,o,rfl,hB,fun j hj=>?_⟩;have aa:j<n:=by rw[Bd]at hj;omega
 rw[h.cell (o+j) (by omega),L.fy hj,L.fy (by omega:o+j<ls.length),Di,Dt]
theorem jJ.o4 (h:jJ w g ls) (hB:g<B):il w B (some ⟨g,0,none⟩) ls:=by
 have:=h.rd 0 ls.length (by omega) hB;simpa using this
theorem SB:(prog.info? 5).map (fun i=>(i.zero,i.size,i.bytes))=some (some (.int .u8 0),1,1):=by kernel_rfl
def FM (ls:List Int):Obj:=.cells (ls.map (Value.int .u8)).toArray 5
theorem Sy (w:World) (b:List Int):il (w.alloc (FM b)) (w.alloc (FM b)).heap.size (some ⟨w.heap.size,0,none⟩) b/\Below w.heap.size w (w.alloc (FM b)) :=
 ⟨(jJ.new w b).o4 (by simp),(AB _ _).alloc (Af _) _⟩
def bS (w:World) (base:Nat) (v:Value) (xs:List Int):Prop:=w.ownsRow base 5 1 v xs.length (xs.map (Value.int .u8))
theorem bS.nil (w:World) (base:Nat):bS w base (.slice none 0 0) []:=Da w base _ _
theorem bS.alloc {xs:List Int} (h:bS w base v xs) (o:Obj):bS (w.alloc o) base v xs:=C5 h o
theorem bS.drewN {xs:List Int} (h:bS w base v xs) (n:Nat):bS (w.drewN n) base v xs:=h
theorem bS.below {xs:List Int} (h:bS w base v xs) (hb:Below B w w') (hB:w.heap.size<=B):bS w' base v xs:=by
 refine⟨h.1,?_⟩;rcases h.2 with h0|⟨g,cap,cur,e,aa,hg,hr⟩
 ·exact .inl h0
 ·exact .inr ⟨g,cap,cur,e,aa,(hb.block g (Ah (Ad.1 hg).1 hB)).trans hg,hr⟩
theorem bS.form {xs:List Int} (h:bS w base v xs):∃A c,v=.slice A xs.length c/\xs.length<=c/\c<=maxLen/\il w w.heap.size A xs:=by
 rcases h.2 with⟨rfl,h0⟩|⟨g,cap,cur,rfl,hb,hg,hn,hm,hs,ht⟩
 ·exact⟨none,0,by rw[h0],by omega,by unfold maxLen;omega,fun hc=>absurd h0 hc⟩
 ·refine⟨some ⟨g,0,none⟩,cap,rfl,hn,hm,fun _=>⟨g,0,rfl,?_,fun j hj=>?_⟩⟩
  ·exact(Ad.1 hg).1
  ·have hc:=CE h (g:=g) rfl j (.int .u8 (xs.getD j 0)) (by simp[hj,List.getD]);have e:((⟨g,0,none⟩:Addr).add j)=⟨g,0+j,none⟩:=by unfold Addr.add;by_cases h0:j=0 <;> simp[h0]
   rw[e]at hc;exact hc
theorem bS.mono {xs:List Int} (h:bS w base v xs) (hb:base'<=base):bS w base' v xs:=by
 refine⟨h.1,?_⟩;rcases h.2 with h0|⟨g,cap,cur,e,aa,hr⟩
 ·exact .inl h0
 ·exact .inr ⟨g,cap,cur,e,by omega,hr⟩
theorem bS.addr {xs:List Int} (h:bS w base v xs) (h0:xs.length≠0):∃g c,v=.slice (some ⟨g,0,none⟩) xs.length c/\xs.length<=c/\c<=maxLen/\base<=g:=by
 rcases h.2 with⟨_,h1⟩|⟨g,cap,cur,rfl,hb,hg,hn,hm,hs,ht⟩
 ·exact absurd h1 h0
 ·exact⟨g,cap,rfl,hn,hm,hb⟩
theorem bS.cellAt {w:World} {base g n c:Nat} {xs:List Int} (h:bS w base (.slice (some ⟨g,0,none⟩) n c) xs) (hn:n=xs.length) (j:Nat) (hj:j<xs.length):w.cell? ⟨g,j,none⟩=some (.int .u8 (xs.getD j 0)):=by
 subst hn;rw[World.ownsRow.cellAt h j (by omega)];simp[hj,List.getD]
theorem QJ {rest:List Oper} {o:Oper} {a:Act} {Q:Exit->Act->World->Prop} (af:o.guard=none) (s x:Operand) (t:TypeId) (ho:o.op=.call {callee:=.builtin .append,args:=#[s,x],argTypes:=#[t,t]}) (ht:prog.underlying t=some (.slice 5)) (base:Nat) (v:Value) (xs:List Int) (hs:a.eval s=v) (aa:bS w base v xs) (B m c:Nat) (A:Option Addr) (zs:List Int) (hx:a.eval x=.slice A m c) (hm:m=zs.length) (hr:il w B A zs) (ag:xs.length+zs.length<=1000000000000) (ab:base<=w.heap.size) (hK:∀v' w',bS w' base v' (xs++zs)->w.grownBy w' v.ownBlock->wpList prog ops Q rest (a.put o.dst v') w') :
  wpList prog ops Q (o::rest) a w:=by
 obtain⟨i,hi,ah,ai,aj⟩:=Cs SB;subst hm;rcases A with _|ad
 ·have hz:zs=[]:=by
   rcases CY zs.length with h0|h0
   ·exact BB h0
   ·obtain⟨g,o',h,_⟩:=hr (by omega);cases h
  subst hz;have ac:=zg (P:=prog) w base t o.type 5 i 1 ht hi v xs.length _ aa c;refine Es af fun K ak=>?_;unfold Oper.wp;simp[execOp,ho,resolve,invoke,builtin,hs,hx,ac,Result.andThen];exact ak _ _ (hK v w (by simpa using aa) (AJ _ _))
 ·refine CT w af s x t ho base 5 i (.int .u8 0) 1 1 ht hi ah ai aj rfl (by decide) v xs.length (xs.map (Value.int .u8)) hs aa ad zs.length c (zs.map (Value.int .u8)) hx (by simp) ?_ ?_ (by unfold maxLen;omega) (by omega) ab fun v' w' h1 h2 _=>hK v' w' ?_ h2
  ·intro j u hj;have ae:j<zs.length:=by have:=(Bc.1 hj).1;simpa using this
   obtain⟨g,o',h,_,hc⟩:=hr (by omega)
   replace h:=DI h
   subst h;have e:((⟨g,o',none⟩:Addr).add j)=⟨g,o'+j,none⟩:=by unfold Addr.add;by_cases h0:j=0 <;> simp[h0]
   rw[e,hc j ae];rw[Bv,AD ae]at hj;rw[L.fy ae];simpa using hj
  ·intro u hu;obtain⟨z,_,rfl⟩:=Bm.1 hu;rfl
  ·unfold bS;rw[AW,Bf];exact h1
end Go.Proofs.YtcmhaemaophplaaGreat
namespace Go.Proofs.YtcmhaemaophplaaGreat
namespace K
def Bytes (l:List Int):Prop:=∀z∈l,0<=z/\z<256
theorem Bytes.nil:Bytes []:=by simp[Bytes]
theorem Bytes.tl (h:Bytes (z::r)):Bytes r:=fun x hx=>h x (Bo _ hx)
theorem Bytes.hd (h:Bytes (z::r)):0<=z/\z<256:=h z (Br ..)
theorem Bytes.app {m:List Int} (h:Bytes l) (k:Bytes m):Bytes (l++m):=fun z hz=>by
 rcases Bt.1 hz with h1|h1
 ·exact h z h1
 ·exact k z h1
theorem Bytes.take (h:Bytes l) (k:Nat):Bytes (l.take k):=fun z hz=>h z (DV hz)
theorem Bytes.drop (h:Bytes l) (k:Nat):Bytes (l.drop k):=fun z hz=>h z (CV hz)
theorem Bytes.getD (h:Bytes l) (k:Nat):0<=l.getD k 0/\l.getD k 0<256:=by
 by_cases hk:k<l.length
 ·rw[L.fy hk];exact h _ (AE hk)
 ·rw[L.E9 (by omega)];omega
theorem Bytes.set (h:Bytes l) (k:Nat) (h1:0<=z) (h2:z<256):Bytes (l.set k z):=fun x hx=>by
 rcases Dz hx with h3|h3
 ·exact h x h3
 ·subst h3;exact⟨h1,h2⟩
end K
theorem il.drop {w:World} {B:Nat} {g o:Nat} {zs:List Int} (h:il w B (some ⟨g,o,none⟩) zs) (k:Nat):il w B (some ⟨g,o+k,none⟩) (zs.drop k):=fun hn=>by
 have hl:(zs.drop k).length=zs.length-k:=by rw[Bl]
 obtain⟨g',o',e,hg,hc⟩:=h (by omega);injection e with e;injection e with e1 e2;subst e1 e2;refine⟨g,o+k,rfl,hg,fun j hj=>?_⟩;rw[show o+k+j=o+(k+j) by omega,hc (k+j) (by omega),L.fy hj,L.fy (by omega:k+j<zs.length),Dt]
def K.bytes (l:List Int):List UInt8:=l.map fun z=>UInt8.ofNat z.toNat
def K.str (l:List Int):ByteArray:=⟨(K.bytes l).toArray⟩
theorem K.jQ (h:K.Bytes l) (j:Nat) (hj:j<(K.bytes l).length):(((K.bytes l)[j]).toNat:Int)=l.getD j 0:=by
 have aa:j<l.length:=by simpa[K.bytes] using hj
 have hb:=h.getD j;rw[L.fy aa]at hb ⊢;simp only[K.bytes,C3];generalize l[j]=z at *
 have:(UInt8.ofNat z.toNat).toNat=z.toNat:=by simp[UInt8.toNat_ofNat'];omega
 rw[this];omega
theorem K.bytes_inj {m:List Int} (hl:K.Bytes l) (hm:K.Bytes m) (h:K.bytes l=K.bytes m):l=m:=by
 have aa:l.length=m.length:=by have:=congrArg List.length h;simpa[K.bytes] using this
 refine L.uj aa fun i hi=>?_;have h1:=K.jQ hl i (by simpa[K.bytes] using hi);have h2:=K.jQ hm i (by simpa[K.bytes] using(aa▸hi));rw[<-h1,<-h2];simp only[h]
theorem K.y7 {m:List Int} (hl:K.Bytes l) (hm:K.Bytes m):(K.str l=K.str m)↔l=m:=by
 constructor
 ·intro h;refine K.bytes_inj hl hm ?_
  have:=congrArg (fun s:ByteArray=>s.data.toList) h
  simpa[K.str] using this
 ·rintro rfl;rfl
theorem FE (h:il w B A l) (hl:K.Bytes l) (c:Nat) :
  (convert 65 9 (.slice A l.length c)).run prog w=.ok (.string (K.str l)) w:=by
 have aa:(K.bytes l).length=l.length:=by simp[K.bytes]
 rcases CY l.length with h0|h0
 ·have hn:=BB h0;subst hn;rw[run_convert_bytes_string w _ _ 5 A _ c underlying65 underlying5 underlying9];rcases A with _|ad
  ·rfl
  ·rw[run_bytesToString w ad [].length c [] (by rfl)];rfl
 ·obtain⟨g,o,rfl,_,hc⟩:=h (by omega);rw[<-aa];refine run_convert_bytes_back w _ _ 5 ⟨g,o,none⟩ c (K.bytes l) underlying65 underlying5 underlying9 fun j hj=>?_;have e:((⟨g,o,none⟩:Addr).add j)=⟨g,o+j,none⟩:=by unfold Addr.add;by_cases h0:j=0 <;> simp[h0]
  rw[e,hc j (by omega),K.jQ hl j hj]
theorem xo (l:List Int) (h:(l.all fun z=>decide (0<=z)&&decide (z<256))=true):K.Bytes l:=fun z hz=>by
 have:=BP.1 h z hz
 simpa using this
def xq (b:List Int):Obj:=.cells (b.map (Value.int .u8)).toArray 5 (b.length,b.length+1)
theorem G9 (w:World) (b:List Int):il (w.alloc (xq b)) (w.alloc (xq b)).heap.size (some ⟨w.heap.size,0,none⟩) b/\Below w.heap.size w (w.alloc (xq b)):=by
 refine⟨fun _=>⟨w.heap.size,0,rfl,by simp,fun j hj=>?_⟩,(AB _ _).alloc (Af _) _⟩
 have:=World.cell?_alloc_mark w (b.map (Value.int .u8)).toArray 5 (b.length,b.length+1) (0+j)
 unfold xq;rw[this];simp[hj,List.getD]
theorem Kt (w:World) (b:List Int) (n c:Nat):(convert 65 65 (.slice (some ⟨w.heap.size,0,none⟩) n c)).run prog (w.alloc (.cells (b.map (Value.int .u8)).toArray 5))=.ok (.slice (some ⟨w.heap.size,0,none⟩) n c) (w.alloc (xq b)):=by
 have hsh:(w.alloc (.cells (b.map (Value.int .u8)).toArray 5)).shape? w.heap.size=some (5,b.length):=by
  unfold World.shape?;rw[AG];simp
 have aa:(w.alloc (.cells (b.map (Value.int .u8)).toArray 5)).freeze ⟨w.heap.size,b.length,none⟩ 1=w.alloc (xq b):=by
  have hm:∀(a:Array Obj) (x:Obj) (f:Obj->Obj),(a.push x).modify a.size f=a.push (f x):=by
   intro a x f;apply Array.ext
   ·simp
   ·intro i h1 h2;simp only[Array.getElem_modify,Array.getElem_push];by_cases h:a.size=i
    ·subst h;simp
    ·have hi:i<a.size:=by simp at h1;omega
     simp[h,hi]
  unfold World.freeze;rw[AI (by decide)]
  show({w with heap:=(w.heap.push (.cells (b.map (Value.int .u8)).toArray 5)).modify w.heap.size _}:World)=_
  rw[hm];rfl
 simp[convert,CZ underlying65,CZ underlying5,markStringish,hsh];exact aa
def K.Tx (l:List Int):Prop:=K.Bytes l/\l.length<=9223372036854775807
namespace Gm
structure Tm where
 nm:List Int
 lv:Int
 wy:Int
structure Rl where
 l:Int
 r:List Int
 p:Int
structure Gr where
 ts:List Tm
 ns:List (List Int)
 rs:List Rl
 st:Int
def In (z:Int):Prop:=-9223372036854775808<=z/\z<=9223372036854775807
structure Fit (G:Gr):Prop where
 t:∀x∈G.ts,K.Tx x.nm/\In x.lv/\In x.wy
 n:∀x∈G.ns,K.Tx x
 r:∀x∈G.rs,In x.l/\In x.p/\∀z∈x.r,In z
 s:In G.st
end Gm
def rV (w:World) (B:Nat) (A:Option Addr) (ts:List Gm.Tm):Prop :=
 ts.length≠0->∃g o,A=some ⟨g,o,none⟩/\g<B/\∀i (h:i<ts.length),w.cell? ⟨g,o+i*3,none⟩=some (.string (K.str ts[i].nm))/\w.cell? ⟨g,o+i*3+1,none⟩=some (.int .i64 ts[i].lv)/\w.cell? ⟨g,o+i*3+2,none⟩=some (.int .i64 ts[i].wy)
def tM (w:World) (B:Nat) (A:Option Addr) (ns:List (List Int)):Prop :=
 ns.length≠0->∃g o,A=some ⟨g,o,none⟩/\g<B/\∀i (h:i<ns.length),w.cell? ⟨g,o+i,none⟩=some (.string (K.str ns[i]))
def qR (w:World) (B:Nat) (A:Option Addr) (rs:List Gm.Rl):Prop :=
 rs.length≠0->∃g o,A=some ⟨g,o,none⟩/\g<B/\∀i (h:i<rs.length),w.cell? ⟨g,o+i*3,none⟩=some (.int .i64 rs[i].l)/\(∃A' c',w.cell? ⟨g,o+i*3+1,none⟩=some (.slice A' rs[i].r.length c')/\rs[i].r.length<=c'/\c'<=9223372036854775807/\gd w B A' rs[i].r)/\w.cell? ⟨g,o+i*3+2,none⟩=some (.int .i64 rs[i].p)
def aT (w:World) (B:Nat) (v:Value) (G:Gm.Gr):Prop :=
 ∃AT cT AN cN AR cR,v=.agg #[.slice AT G.ts.length cT,.slice AN G.ns.length cN,.slice AR G.rs.length cR,.int .i64 G.st]/\(G.ts.length<=cT/\cT<=9223372036854775807)/\(G.ns.length<=cN/\cN<=9223372036854775807)/\(G.rs.length<=cR/\cR<=9223372036854775807)/\rV w B AT G.ts/\tM w B AN G.ns/\qR w B AR G.rs
theorem rV.fp {ts:List Gm.Tm} (h:rV w B A ts) (hk:∀g o,g<B->w'.cell? ⟨g,o,none⟩=w.cell? ⟨g,o,none⟩):rV w' B A ts:=fun hn=>by
 obtain⟨g,o,e,hg,hc⟩:=h hn;exact⟨g,o,e,hg,fun i hi=>⟨(hk _ _ hg).trans (hc i hi).1,(hk _ _ hg).trans (hc i hi).2.1,(hk _ _ hg).trans (hc i hi).2.2⟩⟩
theorem tM.fp (h:tM w B A ns) (hk:∀g o,g<B->w'.cell? ⟨g,o,none⟩=w.cell? ⟨g,o,none⟩):tM w' B A ns:=fun hn=>by
 obtain⟨g,o,e,hg,hc⟩:=h hn;exact⟨g,o,e,hg,fun i hi=>(hk _ _ hg).trans (hc i hi)⟩
theorem qR.fp {w w':World} {B:Nat} {A:Option Addr} {rs:List Gm.Rl} (h:qR w B A rs) (hk:∀g o,g<B->w'.cell? ⟨g,o,none⟩=w.cell? ⟨g,o,none⟩):qR w' B A rs:=fun hn=>by
 obtain⟨g,o,e,hg,hc⟩:=h hn;refine⟨g,o,e,hg,fun i hi=>?_⟩;obtain⟨h1,⟨A',c',h2,h3,h4,h5⟩,h6⟩:=hc i hi;exact⟨(hk _ _ hg).trans h1,⟨A',c',(hk _ _ hg).trans h2,h3,h4,h5.fp hk⟩,(hk _ _ hg).trans h6⟩
theorem aT.fp {w w':World} {B:Nat} {v:Value} {G:Gm.Gr} (h:aT w B v G) (hk:∀g o,g<B->w'.cell? ⟨g,o,none⟩=w.cell? ⟨g,o,none⟩):aT w' B v G:=by
 obtain⟨AT,cT,AN,cN,AR,cR,e,h1,h2,h3,h4,h5,h6⟩:=h;exact⟨AT,cT,AN,cN,AR,cR,e,h1,h2,h3,h4.fp hk,h5.fp hk,h6.fp hk⟩
theorem aT.below {G:Gm.Gr} (h:aT w B v G) (hb:Below B' w w') (hB:B<=B'):aT w' B v G :=
 h.fp fun g o hg=>hb.cell (p:=⟨g,o,none⟩) (Ah hg hB)
theorem rV.more {ts:List Gm.Tm} (h:rV w B A ts) (hB:B<=B'):rV w B' A ts:=fun hn=>by
 obtain⟨g,o,e,hg,hc⟩:=h hn;exact⟨g,o,e,by omega,hc⟩
theorem tM.more {ss:List (List Int)} (h:tM w B A ss) (hB:B<=B'):tM w B' A ss:=fun hn=>by
 obtain⟨g,o,e,hg,hc⟩:=h hn;exact⟨g,o,e,by omega,hc⟩
theorem qR.more {w:World} {B B':Nat} {A:Option Addr} {rs:List Gm.Rl} (h:qR w B A rs) (hB:B<=B'):qR w B' A rs:=fun hn=>by
 obtain⟨g,o,e,hg,hc⟩:=h hn;refine⟨g,o,e,by omega,fun i hi=>?_⟩;obtain⟨h1,⟨A',c',h2,h3,h4,h5⟩,h6⟩:=hc i hi;exact⟨h1,⟨A',c',h2,h3,h4,h5.more hB⟩,h6⟩
theorem aT.more {w:World} {B B':Nat} {v:Value} {G:Gm.Gr} (h:aT w B v G) (hB:B<=B'):aT w B' v G:=by
 obtain⟨AT,cT,AN,cN,AR,cR,e,h1,h2,h3,h4,h5,h6⟩:=h;exact⟨AT,cT,AN,cN,AR,cR,e,h1,h2,h3,h4.more hB,h5.more hB,h6.more hB⟩
theorem aT.up {G:Gm.Gr} (h:aT w w.heap.size v G) (hb:Below w.heap.size w w'):aT w' w'.heap.size v G:=(h.below hb (Af _)).more hb.size
theorem aT.drewN {G:Gm.Gr} (h:aT w B v G) (n:Nat):aT (w.drewN n) B v G:=h
theorem K.jL (s:ByteArray) (hs:s.size<=maxLen):∃l,K.Tx l/\s=K.str l:=by
 refine⟨s.data.toList.map fun b=>(b.toNat:Int),⟨?_,by rw[Bh];unfold maxLen at hs;exact hs⟩,?_⟩
 ·intro z hz;obtain⟨b,_,rfl⟩:=Bm.1 hz
  have:=b.toNat_lt
  omega
 ·unfold K.str K.bytes;rw[Ef]
  have:((fun z:Int=>UInt8.ofNat z.toNat)∘fun b:UInt8=>(b.toNat:Int))=id:=by
   funext b;simp
  rw[this];simp
theorem IL {α:Type} (n:Nat) (p:Nat->α->Prop) (h:∀i,i<n->∃a,p i a):∃l:List α,l.length=n/\∀i (hi:i<l.length),p i l[i]:=by
 induction n with
 | zero=>exact⟨[],rfl,fun i hi=>by simp at hi⟩
 | succ n ih =>
  obtain⟨l,hl,hp⟩:=ih (fun i hi=>h i (by omega));obtain⟨a,ha⟩:=h n (by omega);refine⟨l++[a],by simp[hl],fun i hi=>?_⟩;rcases Bx i l.length with h1|h1
  ·rw[B6 h1];exact hp i h1
  ·have:i=l.length:=by simp at hi;omega
   subst this;simp only[List.getElem_concat_length];rw[hl];exact ha
namespace T
def small (z:Int):Bool:=decide (97<=z)&&decide (z<=122)
def head (z:Int):Bool:=small z||(decide (65<=z)&&decide (z<=90))||z==95
def tail (z:Int):Bool:=(decide (48<=z)&&decide (z<=57))||z==46
def fA (z:Int):Bool:=head z||tail z
def run (p:Int->Bool):List Int->Nat
 | []=>0
 | z::r=>if p z then run p r+1 else 0
def ib:List Int->Nat
 | []=>0
 | z::r=>if head z then run fA r+1 else 0
def isName (l:List Int):Bool:=decide (l.length<=20)&&(decide (l.length≠0)&&decide (ib l=l.length))
def gm (l:List Int):Bool:=l==[92,110]||l==[92,116]||l==[92,92]||l==[92,39]||(match l with | [z]=>decide (32<=z)&&decide (z<=126)&&(z != 39)&&(z != 92)|_=>false)
def isLit:List Int->Bool
 | [a,b,c]=>a==39&&c==39&&decide (32<=b)&&decide (b<=126)&&(b != 39)&&(b != 92)
 | [a,b,c,d]=>a==39&&d==39&&b==92&&(c==110||c==116||c==92||c==39)
 | _=>false
theorem im (z:Int) (r:List Int):ib (z::r)=if head z then run fA r+1 else 0:=rfl
theorem pe (p:Int->Bool) (l:List Int):run p l<=l.length:=by
 induction l with
 | nil=>simp[run]
 | cons z r ih=>unfold run;split <;> simp <;> omega
theorem P9 (l:List Int):ib l<=l.length:=by
 cases l with
 | nil=>simp[ib]
 | cons z r=>rw[im];have:=pe fA r;split <;> simp <;> omega
theorem nh (p:Int->Bool) (l:List Int) (k:Nat) (h:k<l.length):run p (l.drop k)=if p (l.getD k 0) then run p (l.drop (k+1))+1 else 0:=by
 rw[L.fM l k h];rfl
theorem ku (p:Int->Bool) (l:List Int) (k:Nat) (h:l.length<=k):run p (l.drop k)=0:=by
 rw[BU h];rfl
theorem p8 (l:List Int) (h:0<l.length):ib l=if head (l.getD 0 0) then run fA (l.drop 1)+1 else 0:=by
 cases l with
 | nil=>simp at h
 | cons z r=>rfl
theorem PO (p:Int->Bool) (l:List Int):run p l=l.length ↔ ∀j,j<l.length->p (l.getD j 0)=true:=by
 induction l with
 | nil=>simp[run]
 | cons z r ih =>
  unfold run
  constructor
  ·intro h j hj;by_cases hz:p z=true
   ·rw[AC hz]at h;simp at h;cases j with
    | zero=>simpa using hz
    | succ j=>have:=ih.1 h j (by simp at hj;omega);simpa using this
   ·rw[AI hz]at h;simp at h
  ·intro h;have h0:=h 0 (by simp)
   have:p z=true:=by simpa using h0
   rw[AC this]
   have:=ih.2 (fun j hj=>by have:=h (j+1) (by simp;omega);simpa using this)
   simp[this]
theorem PN (p:Int->Bool) (l:List Int) (k:Nat) (h:k<=run p l):run p (l.take k)=k:=by
 induction l generalizing k with
 | nil=>simp[run]at h;subst h;rfl
 | cons z r ih =>
  cases k with
  | zero=>rfl
  | succ k =>
   unfold run at h;by_cases hz:p z=true
   ·rw[AC hz]at h;simp only[List.take_succ_cons];unfold run;rw[AC hz,ih k (by omega)]
   ·rw[AI hz]at h;omega
theorem N9 (l:List Int) (k:Nat) (h:k<=ib l):ib (l.take k)=k:=by
 cases l with
 | nil=>simp[ib]at h;subst h;rfl
 | cons z r =>
  cases k with
  | zero=>rfl
  | succ k =>
   rw[im]at h;by_cases hz:head z=true
   ·rw[AC hz]at h;simp only[List.take_succ_cons];rw[im,AC hz,PN _ _ _ (by omega)]
   ·rw[AI hz]at h;omega
theorem mQ (l:List Int):isName l=(decide (l.length≠0)&&decide (l.length<=20)&&head (l.getD 0 0)&&decide (∀j,j<l.length->fA (l.getD j 0)=true)):=by
 cases l with
 | nil=>simp[isName]
 | cons z r =>
  rw[Bw];have hr:=PO fA r;unfold isName;simp only[Bb,Bi]
  constructor
  ·rintro⟨h1,h2,h3⟩;rw[im]at h3;by_cases hz:head z=true
   ·rw[AC hz]at h3;refine⟨⟨⟨by simp,h1⟩,by simpa using hz⟩,fun j hj=>?_⟩;cases j with
    | zero=>simp[fA,hz]
    | succ j =>
     have:=hr.1 (by simpa using h3) j (by simp at hj;omega)
     simpa using this
   ·rw[AI hz]at h3;simp at h3
  ·rintro⟨⟨⟨h1,h2⟩,h3⟩,h4⟩;refine⟨h2,by simp,?_⟩;rw[im,AC (by simpa using h3)]
   have:=hr.2 (fun j hj=>by have:=h4 (j+1) (by simp;omega);simpa using this)
   simp[this]
theorem iV (h:isLit l=true):l.length=3\/l.length=4:=by
 unfold isLit at h;split at h
 ·left;rfl
 ·right;rfl
 ·cases h
theorem s8 (m:List Int):isLit (39::(m++[39]))=gm m:=by
 match m with
 | []=>rfl
 | [b]=>simp[isLit,gm,Bool.and_assoc]
 | [b,c] =>
  by_cases h1:b=92
  ·subst h1;simp[isLit,gm]
  ·have:(b==92)=false:=by simpa using h1
   simp[isLit,gm,this]
 | b::c::d::r =>
  simp only[Cn]
  have:isLit (39::b::c::d::(r++[39]))=false:=by
   unfold isLit;cases r with
   | nil=>rfl
   | cons e r=>rfl
  rw[this];simp[gm]
theorem kI (l:List Int) (h:isLit l=true):∃m,l=39::(m++[39]):=by
 match l,h with
 | [a,b,c],h =>
  simp[isLit]at h;obtain⟨⟨⟨⟨⟨rfl,rfl⟩,_⟩,_⟩,_⟩,_⟩:=h;exact⟨[b],rfl⟩
 | [a,b,c,d],h =>
  simp[isLit]at h;obtain⟨⟨⟨rfl,rfl⟩,_⟩,_⟩:=h;exact⟨[b,c],rfl⟩
theorem p7 (l:List Int) (h:isName l=true):isLit l=false:=by
 rcases hl:isLit l with _|_
 ·rfl
 ·obtain⟨m,rfl⟩:=kI l hl;rw[mQ]at h
  have:head 39=false:=by decide
  simp[this]at h
def ix (l s:List Int):Int:=Lib.index (Lib.bytesOf l) (Lib.bytesOf s)
def pre (l s:List Int):Bool:=Lib.hasPrefix (Lib.bytesOf l) (Lib.bytesOf s)
abbrev P3:=Int×Nat×Int
def skip (l:List Int) (f:Nat) (s:List Int):P3:=if ix (l.drop f) s<0 then(0,0,4) else(0,f+(ix (l.drop f) s).toNat+s.length,0)
def line (l:List Int):List Int:=if 0<=ix l [10] then l.take (ix l [10]).toNat else l
def comment (l:List Int):P3:=if pre l [47,42] then skip l 2 [42,47] else if pre l [47,47] then(0,(line l).length,0) else(0,0,3)
def quoted (q:Int):List Int->Option Nat
 | []=>none
 | z::r=>if z=q then some 1 else if z=92 then(match r with | []=>none|_::r'=>(quoted q r').map (· + 2)) else(quoted q r).map (· + 1)
def jK (z o:Int):Int:=if z=123 then o+1 else if z=125 then o-1 else o
def act:Nat->List Int->Int->Option Nat
 | 0,_,_=>none
 | f+1,l,o=>match l with
  | []=>none
  | z::r=>if z=39\/z=34 then(match quoted z r with|none=>none|some n=>(act f (r.drop n) o).map (· + (n+1)))
   else if 0<jK z o then(act f r (jK z o)).map (· + 1) else some 1
def action (l:List Int):P3:=match act (l.length+1) l 0 with|none=>(0,0,4)|some n=>(0,n,0)
def jd (l:List Int):Int:=if l=[116,111,107,101,110] then 3 else if l=[108,101,102,116] then 4 else if l=[114,105,103,104,116] then 5 else if l=[110,111,110,97,115,115,111,99] then 6 else if l=[115,116,97,114,116] then 7 else if l=[112,114,101,99] then 8 else 0
def jX (l:List Int):Nat:=1+run small (l.drop 1)
def jF (l:List Int):P3:=if pre l [37,37] then(9,2,0) else if pre l [37,123] then skip l 2 [37,125] else if jd ((l.take (jX l)).drop 1)=0 then(0,0,3) else(jd ((l.take (jX l)).drop 1),jX l,0)
def literal (l:List Int):P3:=if isLit (l.take 3) then(2,3,0) else if isLit (l.take 4) then(2,4,0) else if isLit (l++[39])||isLit (l++[110,39]) then(0,0,4) else(0,0,3)
def name (l:List Int):P3:=if ib l=0 then(0,0,3) else if 20<ib l then(0,0,5) else(1,ib l,0)
def piece (l:List Int):P3 :=
 let z:=l.getD 0 0
 if z=32\/z=9\/z=10\/z=13 then(0,1,0) else if z=47 then comment l else if z=60 then skip (line l) 1 [62] else if z=123 then action l else if z=37 then jF l
 else if z=39 then literal l else if z=58 then(10,1,0) else if z=124 then(11,1,0) else if z=59 then(12,1,0) else name l
theorem F9 (l:List Int):(Lib.bytesOf l).length=l.length:=by simp[Lib.bytesOf]
theorem ur (l s:List Int):-1<=ix l s:=Lib.index_ge _ _
theorem oO (l s:List Int) (h:0<=ix l s):(ix l s).toNat+s.length<=l.length:=by
 have:=Lib.index_room _ _ h
 rw[F9,F9]at this;unfold ix at *;omega
theorem sn (l:List Int):(line l).length<=l.length:=by
 unfold line;split
 ·rw[Bd];omega
 ·exact Af _
theorem FI (l s:List Int) (h:pre l s=true):s.length<=l.length:=by
 have:=List.IsPrefix.length_le (List.isPrefixOf_iff_prefix.1 h)
 rwa [F9,F9]at this
theorem kh (q:Int):∀(l:List Int) (n:Nat),quoted q l=some n->1<=n/\n<=l.length
 | [],n,h=>by simp[quoted]at h
 | [z],n,h=>by
  unfold quoted at h;by_cases h1:z=q
  ·rw[AC h1]at h;simp at h;subst h;simp
  ·rw[AI h1]at h;by_cases h2:z=92
   ·rw[AC h2]at h;simp at h
   ·rw[AI h2]at h;simp[quoted]at h
 | z::y::r,n,h=>by
  unfold quoted at h;by_cases h1:z=q
  ·rw[AC h1]at h;simp at h;subst h;simp
  ·rw[AI h1]at h;by_cases h2:z=92
   ·rw[AC h2]at h;simp only[Df]at h;obtain⟨m,hm,rfl⟩:=h
    have:=kh q r m hm
    simp;omega
   ·rw[AI h2]at h;rw[Df]at h;obtain⟨m,hm,rfl⟩:=h
    have:=kh q (y::r) m hm
    simp at this ⊢;omega
theorem I2:∀(f:Nat) (l:List Int) (o:Int) (n:Nat),act f l o=some n->1<=n/\n<=l.length
 | 0,_,_,_,h=>by simp[act]at h
 | f+1,[],o,n,h=>by simp[act]at h
 | f+1,z::r,o,n,h=>by
  unfold act at h;simp only at h;split at h
  ·split at h
   ·cases h
   ·rename_i m hq
    rw[Df]at h;obtain⟨k,hk,rfl⟩:=h;have h1:=I2 f _ _ _ hk;have h2:=kh z r m hq;rw[Bl]at h1
    simp;omega
  ·generalize jK z o=o' at h;by_cases h0:0<o'
   ·rw[AC h0,Df]at h;obtain⟨k,hk,rfl⟩:=h;have h1:=I2 f _ _ _ hk
    simp;omega
   ·rw[AI h0]at h;injection h with h;subst h;simp
def tU (l:List Int) (x:P3):Prop:=(x.2.2=0->1<=x.2.1/\x.2.1<=l.length/\(x.1=1->isName (l.take x.2.1)=true)/\(x.1=2->isLit (l.take x.2.1)=true))/\0<=x.1/\x.1<=12/\0<=x.2.2/\x.2.2<=5/\x.2.1<=l.length
theorem xU (l:List Int) (e:Int) (h:1<=e) (h2:e<=5):tU l (0,0,e):=by
 refine⟨fun h'=>?_,by omega,by omega,by simp;omega,by simpa using h2,by simp⟩;simp at h';omega
theorem xj (l:List Int) (k:Int) (n:Nat) (h1:1<=n) (h2:n<=l.length) (h3:k≠1) (h4:k≠2) (h5:0<=k) (h6:k<=12):tU l (k,n,0) :=
 ⟨fun _=>⟨h1,h2,fun h=>absurd h h3,fun h=>absurd h h4⟩,h5,h6,by simp,by simp,h2⟩
theorem Hx (l m:List Int) (f:Nat) (s:List Int) (hm:m.length<=l.length) (hf:f<=m.length) (hs:1<=s.length):tU l (skip m f s):=by
 unfold skip;have h1:=ur (m.drop f) s;have h2:=oO (m.drop f) s;rw[Bl]at h2;split
 ·exact xU _ _ (by omega) (by omega)
 ·exact xj _ _ _ (by omega) (by omega) (by omega) (by omega) (by omega) (by omega)
theorem Qb (l:List Int) (h:0<l.length) (hb:K.Bytes l) (hz:l.getD 0 0≠10):1<=(line l).length:=by
 unfold line;have hr:=oO l [10];split
 ·rename_i h0
  have:=hr h0
  rw[Bd]
  have aa:ix l [10]≠0:=by
   intro he;cases l with
   | nil=>simp at h
   | cons z r =>
    have ab:z≠10:=by simpa using hz
    have ac:=hb.hd;unfold ix at he;simp only[Lib.bytesOf,Bz,Du]at he;unfold Lib.index at he
    have aa:([UInt8.ofNat (10:Int).toNat].isPrefixOf (UInt8.ofNat z.toNat::List.map (fun n=>UInt8.ofNat n.toNat) r))=false:=by
     simp only[List.isPrefixOf,Bool.and_true];rw[Ba];intro e
     have:=congrArg UInt8.toNat e
     simp at this;omega
    rw[aa]at he;simp at he;split at he
    ·cases he
    ·have:=Lib.index_ge (List.map (fun n=>UInt8.ofNat n.toNat) r) [10]
     omega
  omega
 ·omega
theorem np (l:List Int):0<=jd l/\jd l<=8/\(jd l≠0->3<=jd l):=by
 unfold jd
 repeat' split
 all_goals omega
theorem PV (l:List Int) (h:0<l.length):jX l<=l.length:=by
 unfold jX
 have:=pe small (l.drop 1)
 rw[Bl]at this;omega
theorem mX (l:List Int) (h:0<l.length) (hb:K.Bytes l):tU l (piece l):=by
 unfold piece;simp only;have ab:=Qb l h hb;have ac:=sn l;split
 ·exact xj _ _ _ (by omega) (by omega) (by omega) (by omega) (by omega) (by omega)
 split
 ·rename_i hz
  unfold comment;split
  ·rename_i hp
   have:=FI _ _ hp
   exact Hx l l 2 _ (by omega) (by simpa using this) (by simp)
  split
  ·exact xj _ _ _ (ab (by omega)) ac (by omega) (by omega) (by omega) (by omega)
  ·exact xU _ _ (by omega) (by omega)
 split
 ·exact Hx l _ 1 _ ac (ab (by omega)) (by simp)
 split
 ·unfold action;split
  ·exact xU _ _ (by omega) (by omega)
  ·rename_i n hn
   have:=I2 _ _ _ _ hn
   exact xj _ _ _ this.1 this.2 (by omega) (by omega) (by omega) (by omega)
 split
 ·unfold jF;have hw:=np ((l.take (jX l)).drop 1);split
  ·rename_i hp
   have:=FI _ _ hp
   exact xj _ _ _ (by omega) (by simpa using this) (by omega) (by omega) (by omega) (by omega)
  split
  ·rename_i hp
   have:=FI _ _ hp
   exact Hx l l 2 _ (by omega) (by simpa using this) (by simp)
  split
  ·exact xU _ _ (by omega) (by omega)
  ·rename_i hk
   have h3:=hw.2.2 hk;exact xj _ _ _ (by unfold jX;omega) (PV l h) (by omega) (by omega) (by omega) (by omega)
 split
 ·unfold literal;split
  ·rename_i hk
   have aa:=iV hk;rw[Bd]at aa;exact⟨fun _=>⟨by simp,by simp;omega,fun h=>by simp at h,fun _=>hk⟩,by simp,by simp,by simp,by simp,by simp;omega⟩
  split
  ·rename_i h3 hk
   have aa:=iV hk;rw[Bd]at aa
   have h4:4<=l.length:=by
    rcases Bx l.length 4 with h5|h5
    ·have e1:l.take 4=l:=Cf (by omega);have e2:l.take 3=l:=Cf (by omega);rw[e1]at hk;rw[e2]at h3;exact absurd hk h3
    ·exact h5
   exact⟨fun _=>⟨by simp,by simp;omega,fun h=>by simp at h,fun _=>hk⟩,by simp,by simp,by simp,by simp,by simp;omega⟩
  split
  ·exact xU _ _ (by omega) (by omega)
  ·exact xU _ _ (by omega) (by omega)
 split
 ·exact xj _ _ _ (by omega) (by omega) (by omega) (by omega) (by omega) (by omega)
 split
 ·exact xj _ _ _ (by omega) (by omega) (by omega) (by omega) (by omega) (by omega)
 split
 ·exact xj _ _ _ (by omega) (by omega) (by omega) (by omega) (by omega) (by omega)
 ·unfold name;have hn:=P9 l;split
  ·exact xU _ _ (by omega) (by omega)
  split
  ·exact xU _ _ (by omega) (by omega)
  ·rename_i h1 h2
   refine⟨fun _=>⟨by simp;omega,by simpa using hn,fun _=>?_,fun h=>by simp at h⟩,by simp,by simp,by simp,by simp,by simpa using hn⟩;simp only;unfold isName;have e:min (ib l) l.length=ib l:=by omega
   rw[N9 l _ (Af _),Bd,e];simp only[Bb,Bi];exact⟨by omega,by omega,trivial⟩
end T
namespace Gm
def find:List (List Int)->List Int->Int
 | [],_=>-1
 | x::r,s=>if x=s then 0 else if find r s<0 then -1 else find r s+1
theorem sc (l:List (List Int)) (s:List Int):-1<=find l s:=by
 induction l with
 | nil=>unfold find;omega
 | cons x r ih=>unfold find;split;omega;split <;> omega
theorem oI (l:List (List Int)) (s:List Int):find l s<l.length:=by
 induction l with
 | nil=>unfold find;simp
 | cons x r ih=>unfold find;simp only[BC];split;omega;split <;> omega
theorem zH {l:List (List Int)} {s:List Int}:find l s<0↔s ∉ l:=by
 induction l with
 | nil=>unfold find;simp
 | cons x r ih =>
  unfold find;by_cases hx:x=s
  ·rw[AC hx];simp[hx]
  ·rw[AI hx];by_cases hr:find r s<0
   ·rw[AC hr]
    have:=ih.1 hr
    simp only[Bu,not_or];exact⟨fun _=>⟨fun e=>hx e.symm,this⟩,fun _=>by omega⟩
   ·rw[AI hr]
    have:s∈r:=BW fun q=>hr (ih.2 q)
    constructor
    ·intro h;omega
    ·intro h;exact absurd (Bo _ this) h
theorem Pa {l:List (List Int)} {s:List Int} (h:0<=find l s):∃i:Nat,find l s=(i:Int)/\∃hi:i<l.length,l[i]=s:=by
 induction l with
 | nil=>unfold find at h;omega
 | cons x r ih =>
  unfold find at h ⊢;by_cases hx:x=s
  ·rw[AC hx];exact⟨0,rfl,by simp,hx⟩
  ·rw[AI hx]at h ⊢;by_cases hr:find r s<0
   ·rw[AC hr]at h;omega
   ·rw[AI hr];obtain⟨i,h1,h2,h3⟩:=ih (by omega);exact⟨i+1,by rw[h1];rfl,by simp;omega,by simpa using h3⟩
theorem mK {l:List (List Int)} {s:List Int} (i:Nat) (hi:i<l.length) (hs:l[i]=s) (hb:∀k (hk:k<i),l[k]'(by omega)≠s):find l s=(i:Int):=by
 induction l generalizing i with
 | nil=>simp at hi
 | cons x r ih =>
  unfold find;cases i with
  | zero=>rw[AC (by simpa using hs)];rfl
  | succ i =>
   rw[AI (by simpa using hb 0 (by omega))]
   have:=ih i (by simpa using hi) (by simpa using hs) (fun k hk=>by simpa using hb (k+1) (by omega))
   rw[this,AI (by omega)];rfl
theorem ue {l:List (List Int)} {s:List Int} (hb:∀k (hk:k<l.length),l[k]≠s):find l s = -1:=by
 have h1:find l s<0:=zH.2 fun hm=>by
  obtain⟨k,hk,e⟩:=BF hm;exact hb k hk e
 have:=sc l s
 omega
def names (ts:List Tm):List (List Int):=ts.map Tm.nm
def term (G:Gr) (s:List Int):Int:=find (names G.ts) s
def yB (G:Gr) (s:List Int):Int:=find G.ns s
def has (G:Gr) (z:Int):Bool:=if 0<=z then decide (z<G.ts.length) else decide (-1-z<G.ns.length)
def name (G:Gr) (z:Int):List Int:=if has G z then(if 0<=z then(names G.ts).getD z.toNat [] else G.ns.getD (-1-z).toNat []) else []
def named (s:List Int):Bool:=T.isName s||T.isLit s
def nA (n:Int):List Tm->Int->Bool
 | [],way=>way != 0
 | t::r,way=>if t.lv≠n then nA n r way else if way≠0/\way≠t.wy then false else nA n r t.wy
def ja (ts:List Tm) (i:Nat) (t:Tm):Bool:=named t.nm&&(find (names ts) t.nm==(i:Int))&&decide (0<=t.lv)&&decide (t.lv<=24)&&decide (0<=t.wy)&&decide (t.wy<=3)&&((t.lv==0)==(t.wy==0))&&decide (∀n,n<t.lv.toNat->nA ((n+1:Nat):Int) ts 0=true)
def gU (ts:List Tm):Bool:=decide (ts.length<=24)&&decide (∀i (h:i<ts.length),ja ts i ts[i]=true)
def nD (G:Gr) (i:Nat) (s:List Int):Bool:=T.isName s&&(yB G s==(i:Int))&&decide (term G s<0)
def jV (G:Gr):Bool:=decide (1<=G.ns.length)&&decide (G.ns.length<=16)&&decide (∀i (h:i<G.ns.length),nD G i G.ns[i]=true)
def gD (G:Gr) (r:Rl):Bool:=decide (r.r.length<=6)&&decide (-1<=r.p)&&decide (r.p<G.ts.length)&&r.r.all fun z=>has G z && !(decide (0<=z)&&r.p == -1)
def rules (G:Gr):List Rl->Int->Bool
 | [],top=>top==G.ns.length-1
 | r::rs,top=>if r.l<0\/top+1<r.l\/gD G r=false then false else rules G rs (if top<r.l then r.l else top)
def right (G:Gr):Bool:=gU G.ts&&jV G&&decide (1<=G.rs.length)&&decide (G.rs.length<=40)&&decide (0<=G.st)&&decide (G.st<G.ns.length)&&rules G G.rs (-1)
def nJ (G:Gr):Bool:=decide (40<G.ts.length)||decide (40<G.ns.length)||decide (60<G.rs.length)||G.rs.any fun r=>decide (20<r.r.length)
end Gm
end Go.Proofs.YtcmhaemaophplaaGreat
namespace Go.Calm
section
variable {P:Program} {ops:Array Oper} {Q:Exit->Act->World->Prop} {md:Region.Mode}
def iq:Op->Bool
 | .move _ | .assign _ | .pick .. | .load .. | .convert .. | .binOp .. | .unOp .. | .slice .. | .fieldAddr .. | .field .. | .indexAddr .. | .index .. | .extract .. | .build ..=>true
 | .call c=>match c.callee with
  | .builtin .len | .builtin .cap=>true
  | _=>false
 | _=>false
theorem jc {s:Sem Value} {n:Next} (h:((do pure (.value (<-s))):Sem Next).run P w=.ok n w'):∃u,n=.value u:=by
 rw[Et]at h;cases hs:s.run P w with
 | ok v w1=>rw[hs]at h;simp[Result.andThen,Dl]at h;exact⟨v,h.1.symm⟩
 | halt x w1=>rw[hs]at h;simp[Result.andThen]at h
theorem jW {o:Oper} (hp:iq o.op=true) {a:Act} {n:Next} (h:(execOp a.eval o).run P w=.ok n w'):∃u,n=.value u:=by
 obtain⟨dst,op,type,pos,after,guard⟩:=o;cases op with
 | call c =>
  obtain⟨callee,args,ats⟩:=c;cases callee with
  | builtin b =>
   cases b with
   | len=>exact jc (s:=Builtin.len_ ats type (args.map a.eval)) h
   | cap=>exact jc (s:=Builtin.cap_ ats type (args.map a.eval)) h
   | _=>exact absurd hp (by simp[iq])
  | invoke recv name=>exact absurd hp (by simp[iq])
  | value f=>exact absurd hp (by simp[iq])
 | move x=>simp[execOp,Dl]at h;exact⟨_,h.1.symm⟩
 | assign x=>simp[execOp,Dl]at h;exact⟨_,h.1.symm⟩
 | pick c x y =>
  simp only[execOp,Et]at h;cases hs:(asBool (a.eval c)).run P w with
  | ok v w1=>rw[hs]at h;simp[Result.andThen,Dl]at h;exact⟨_,h.1.symm⟩
  | halt x w1=>rw[hs]at h;simp[Result.andThen]at h
 | _=>first
  | (simp[iq]at hp;done)
  | exact jc h
theorem j4 {S:World->Prop} {o:Oper} {a:Act} (hp:iq o.op=true) (hw:Region.wanted o (yielded ops a.tmps)=true) (h:∀w,S w->o.quietAt P a S w v):YieldsIf P ops S o v a:=by
 refine .inl ⟨hw,fun w hS=>?_⟩;have h1:=h w hS;unfold Oper.quietAt at h1;cases hr:(execOp a.eval o).run P w with
 | ok n w' =>
  obtain⟨u,rfl⟩:=jW hp hr;rw[hr]at h1;simp only[Oper.quietUpon]at h1;rw[h1.1,h1.2]
 | halt x w'=>rw[hr]at h1;simp[Oper.quietUpon]at h1
def fo (ops:Array Oper):List Nat->List Oper
 | []=>[]
 | i::r=>match ops[i]? with
  | some o=>o::fo ops r
  | none=>fo ops r
def marked:List Nat->Array Bool->Array Bool
 | [],l=>l
 | i::r,l=>marked r (l.setIfInBounds i true)
def iu (md:Region.Mode) (ops:Array Oper):List Nat->Array Bool->Bool
 | [],_=>true
 | i::r,l=>(match ops[i]? with|some o=>iq o.op|none=>false)&&Region.free md ops l i&&(Region.ready md ops l).contains i&&iu md ops r (l.setIfInBounds i true)
theorem gP {S S':World->Prop} (h:∀x,S' x->S x):∀(fuel:Nat) (listed:Array Bool) (a:Act) (w:World),wpAnyH P md ops Q S' fuel listed a w->wpAnyH P md ops Q S fuel listed a w
 | 0,_,_,_,k=>k
 | fuel+1,_,_,_,k=>⟨k.1,fun i hi=>wpOp_mono (fun a w hk=>⟨h _ hk.1,gP h fuel _ a w hk.2⟩) (k.2 i hi)⟩
theorem fH {S:World->Prop} (hs:Region.noSelect ops=true) (hQ:∀c a d v w,Q (.panic c) (a.put d v) w->Q (.panic c) a w) {w:World} (hS:S w) (fuel:Nat) :
  ∀(p:List Nat) (listed:Array Bool) (a:Act),iu md ops p listed=true ->
   wpQuiet P ops S (fun a'=>wpAnyH P md ops Q S fuel (marked p listed) a' w) (fo ops p) a->wpAnyH P md ops Q S (p.length+fuel) listed a w
 | [],_,_,_,h=>by rw[Eg,BG];exact h
 | i::r,listed,a,hb,h=>by
  unfold iu at hb;cases ho:ops[i]? with
  | none=>rw[ho]at hb;simp at hb
  | some o =>
   rw[ho]at hb;simp only[Bb]at hb;obtain⟨⟨⟨hp,hf⟩,hr⟩,aa⟩:=hb;have hl:fo ops (i::r)=o::fo ops r:=by simp only[fo,ho]
   rw[hl]at h;rw[show(i::r).length+fuel=(r.length+fuel)+1 by rw[BC];omega];unfold wpQuiet at h;by_cases hw:Region.wanted o (yielded ops a.tmps)=true
   ·rw[AC hw]at h;obtain⟨v,h1,h2⟩:=h;exact wpAnyH_take ho hs hf hr (fun c a w=>hQ c a o.dst v w) (j4 hp hw h1) hS (fH hs hQ hS fuel r _ _ aa h2)
   ·rw[AI hw]at h;exact wpAnyH_take ho hs hf hr (fun c a w=>hQ c a o.dst undef w) (.inr ⟨by simpa using hw,rfl⟩) hS (fH hs hQ hS fuel r _ _ aa h)
where
 wpQuiet_mono' {S:World->Prop} {Q1 Q2:Act->Prop} (h:∀a,Q1 a->Q2 a):∀ {l:List Oper} {a:Act},wpQuiet P ops S Q1 l a->wpQuiet P ops S Q2 l a
  | [],_,k=>h _ k
  | o::r,a,k=>by
   unfold wpQuiet at k ⊢;split
   ·rename_i hw;rw[AC hw]at k;obtain⟨v,h1,h2⟩:=k;exact⟨v,h1,wpQuiet_mono' h h2⟩
   ·rename_i hw;rw[AI hw]at k;exact wpQuiet_mono' h k
end
def On (B:Nat) (w:World):Type:={x:World // Below B w x}
instance (B:Nat) (w:World):Nonempty (On B w):=⟨⟨w,AB _ _⟩⟩
end Go.Calm
namespace Go.Proofs.YtcmhaemaophplaaGreat
theorem qP {x:World} (h:Below B w x):Hid (∃z:Calm.On B w,x=z.1):=aA ⟨⟨x,h⟩,rfl⟩
theorem aW (w:World):Hid (∃z:Calm.On w.heap.size w,w.drew=z.1):=qP (aB (AB _ _) 1)
theorem RH (z:Int) (hz:-9223372036854775808<=z) (aa:z<=9223372036854775807) (w:World) :
  Calls prog 149 #[.int .i64 z] w fun e w'=>e=.returned (.int .i64 (-1-z))/\w'=w:=by
 have hs:IntKind.i64.wrap (-1-z) = -1-z:=B3 _ (by omega);clear hz aa
 go_enter func149,ntmps149
 go_wp2;go_ret
 exact⟨rfl,rfl⟩
theorem JS (z:Int) (w:World) :
  Calls prog 184 #[.int .i64 z] w fun e w'=>e=.returned (.bool (decide (0<=z)))/\w'=w:=by
 go_enter func184,ntmps184
 go_wp2;go_ret
 exact⟨rfl,rfl⟩
theorem IN (v:Value) (G:Gm.Gr) (B:Nat) (z:Int) (hz:Gm.In z) (w:World) (hg:aT w B v G) :
  Calls prog 113 #[v,.int .i64 z] w fun e w'=>e=.returned (.bool (Gm.has G z))/\Below w.heap.size w w':=by
 obtain⟨AT,cT,AN,cN,AR,cR,rfl,_⟩:=hg;have HB:=aA (fun o=>(AB w.heap.size w).alloc (Af _) o);unfold Gm.In at hz;unfold Gm.has;by_cases h0:0<=z
 ·rw[AC h0];clear hz
  go_enter func113,ntmps113
  go_wp2;go_ret
  exact⟨rfl,HB.o _⟩
 ·rw[AI h0];have HN:=aA (fun w=>RH z (by omega) (by omega) w);have aa:decide (0<=z)=false:=AM h0;clear hz
  go_enter func113,ntmps113
  go_wp2_with fail
  go_quiet ((go_at_call 149;exact Dy (HN.o _)))
  go_wp2;go_ret
  exact⟨rfl,aB (HB.o _) _⟩
theorem Kq (v:Value) (G:Gm.Gr) (B:Nat) (z:Int) (hz:Gm.In z) (w:World) (hg:aT w B v G) :
  Calls prog 80 #[v,.int .i64 z] w fun e w'=>e=.returned (.bool (Gm.has G z))/\Below w.heap.size w w':=by
 obtain⟨AT,cT,AN,cN,AR,cR,rfl,_⟩:=hg;have HB:=aA (fun o=>(AB w.heap.size w).alloc (Af _) o);unfold Gm.In at hz;unfold Gm.has;have hs:¬0<=z->IntKind.i64.wrap (-1-z) = -1-z:=fun h=>B3 _ (by omega);by_cases h0:0<=z
 ·rw[AC h0];clear hz hs
  go_enter func80,ntmps80
  go_wp2;go_ret
  exact⟨rfl,HB.o _⟩
 ·rw[AI h0];have hs:=hs h0;clear hz
  go_enter func80,ntmps80
  go_wp2;go_ret
  exact⟨rfl,HB.o _⟩
def ij (l:List (List Int)) (s:List Int) (k:Nat):Prop:=∀i (h:i<l.length),i<k->l[i]≠s
theorem ij.zero (l:List (List Int)) (s:List Int):ij l s 0:=fun _ _ h=>by omega
theorem ij.next {l:List (List Int)} {s:List Int} (h:ij l s k) (hk:k<l.length) (hn:l[k]≠s):ij l s (k+1):=fun i hi aa=>by
 rcases Bx i k with h1|h1
 ·exact h i hi h1
 ·obtain rfl:i=k:=by omega
  exact hn
theorem ij.here {l:List (List Int)} {s:List Int} (h:ij l s k) (hk:k<l.length) (hn:l[k]=s):Gm.find l s=(k:Int):=Gm.mK k hk hn fun i hi=>h i (by omega) hi
theorem ij.none {l:List (List Int)} {s:List Int} (h:ij l s k) (hk:l.length<=k):Gm.find l s = -1:=Gm.ue fun i hi=>h i hi (by omega)
theorem K.E7 {m:List Int} (hl:K.Tx l) (hm:K.Tx m):((K.str l).toList==(K.str m).toList)=decide (l=m):=by
 rw[Bw];simp only[BJ,Bi]
 constructor
 ·intro h;rw[CP,CP]at h;exact K.bytes_inj hl.1 hm.1 (by simpa[K.str] using h)
 ·rintro rfl;rfl
theorem Gc (v:Value) (G:Gm.Gr) (s:List Int) (B:Nat) (w:World) (hg:aT w B v G) (hf:Gm.Fit G) (hs:K.Tx s) (hB:B<=w.heap.size) :
  Calls prog 82 #[v,.string (K.str s)] w fun e w'=>e=.returned (.int .i64 (Gm.term G s))/\Below w.heap.size w w':=by
 obtain⟨AT,cT,AN,cN,AR,cR,rfl,⟨hl,hm⟩,_,_,ht,_,_⟩:=hg;have HB:=aA (fun o=>(AB w.heap.size w).alloc (Af _) o);have HT:=aA ht;have HF:=aA hf.t;have HL:Hid ((Gm.names G.ts).length=G.ts.length):=aA (by simp[Gm.names]);have ab:(G.ts.length:Int)<=9223372036854775807:=by omega
 clear ht hf
 go_enter func82,ntmps82
 go_wp2
 go_loop [5] (fun vi=>∃(k:Nat),k<=G.ts.length/\vi=.int .i64 k/\ij (Gm.names G.ts) s k) (fun vi=>G.ts.length-(intOf vi).toNat)
 case atStart=>exact⟨0,AV _,rfl,ij.zero _ _⟩
 case round =>
  obtain⟨k,hk,rfl,hn⟩:=hrel;have HN:=aA hn;clear hn;by_cases b:k<G.ts.length
  ·obtain⟨g,o,rfl,ac,hc⟩:=HT.o (by omega);have k0:=(hc k b).1;have ad:g<w.heap.size:=by omega
   have hq:=(HF.o _ (AE b)).1;have aa:(Gm.names G.ts)[k]'(by rw[HL.o];exact b)=G.ts[k].nm:=by simp[Gm.names]
   have he:=K.E7 hq hs;have HQ:=aA aa;clear hc hq aa;generalize G.ts[k].nm=x at *;by_cases hx:x=s
   ·have HR:=aA (HN.o.here (by rw[HL.o];exact b) (HQ.o.trans hx));rw[AQ hx]at he;clear hx;go_wp2;go_ret
    exact⟨aU HR.o.symm,HB.o _⟩
   ·have HR:=aA (HN.o.next (by rw[HL.o];exact b) (fun e=>hx (HQ.o.symm.trans e)));rw[AM hx]at he;clear hx;go_wp2
    go_round
    case rel=>exact⟨k+1,by omega,by go_num,HR.o⟩
    case measure=>simp[intOf];omega
  ·obtain rfl:k=G.ts.length:=by omega
   have HR:=aA (HN.o.none (by rw[HL.o];omega));go_wp2;go_ret
   exact⟨aU HR.o.symm,HB.o _⟩
theorem KF (v:Value) (G:Gm.Gr) (s:List Int) (B:Nat) (w:World) (hg:aT w B v G) (hf:Gm.Fit G) (hs:K.Tx s) (hB:B<=w.heap.size) :
  Calls prog 67 #[v,.string (K.str s)] w fun e w'=>e=.returned (.int .i64 (Gm.yB G s))/\Below w.heap.size w w':=by
 obtain⟨AT,cT,AN,cN,AR,cR,rfl,_,⟨hl,hm⟩,_,_,ht,_⟩:=hg;have HB:=aA (fun o=>(AB w.heap.size w).alloc (Af _) o);have HT:=aA ht;have HF:=aA hf.n;have aa:(G.ns.length:Int)<=9223372036854775807:=by omega
 clear ht hf
 go_enter func67,ntmps67
 go_wp2
 go_loop [5] (fun vi=>∃(k:Nat),k<=G.ns.length/\vi=.int .i64 k/\ij G.ns s k) (fun vi=>G.ns.length-(intOf vi).toNat)
 case atStart=>exact⟨0,AV _,rfl,ij.zero _ _⟩
 case round =>
  obtain⟨k,hk,rfl,hn⟩:=hrel;have HN:=aA hn;clear hn;by_cases hlt:k<G.ns.length
  ·obtain⟨g,o,rfl,ab,hc⟩:=HT.o (by omega);have k0:=hc k hlt;have ac:g<w.heap.size:=by omega
   have he:=K.E7 (HF.o _ (AE hlt)) hs;obtain⟨x,hq⟩:∃x,x=G.ns[k]:=⟨_,rfl⟩
   rw[<-hq]at k0 he;have HQ:=aA hq;clear hc hq;by_cases hx:x=s
   ·have HR:=aA (HN.o.here hlt (HQ.o.symm.trans hx));rw[AQ hx]at he;clear hx;go_wp2;go_ret
    exact⟨aU HR.o.symm,HB.o _⟩
   ·have HR:=aA (HN.o.next hlt (fun e=>hx (HQ.o.trans e)));rw[AM hx]at he;clear hx;go_wp2
    go_round
    case rel=>exact⟨k+1,by omega,by go_num,HR.o⟩
    case measure=>simp[intOf];omega
  ·obtain rfl:k=G.ns.length:=by omega
   have HR:=aA (HN.o.none (by omega));go_wp2;go_ret
   exact⟨aU HR.o.symm,HB.o _⟩
end Go.Proofs.YtcmhaemaophplaaGreat
namespace Go.Proofs
open Go.Shelf
def Tryz.pS:Go.Shelf.Ren:=⟨fun|103=>191|210=>198|206=>201|n=>n,fun|9=>9|4=>4|24=>240|3=>3|n=>n,fun|n=>n⟩
theorem Tryz.wJ:Go.Proofs.Lays.n103 prog Tryz.pS:={
 mixed:=by kernel_rfl
 f103:=Tryz.func191.trans (congrArg some (by kernel_rfl))
 f206:=Tryz.func201.trans (congrArg some (by kernel_rfl))
 f210:=Tryz.func198.trans (congrArg some (by kernel_rfl))
 t3:=underlying3
 a3:=isAgg3
 z3:=sizeOf3
 v3:=zeroValue3
 t4:=underlying4
 a4:=isAgg4
 z4:=sizeOf4
 v4:=zeroValue4
 t9:=underlying9
 a9:=isAgg9
 z9:=sizeOf9
 v9:=zeroValue9
 t24:=underlying240
 a24:=isAgg240
 z24:=sizeOf240
 v24:=zeroValue240}
open Go.RowKit in
theorem Tryz.strings_CutPrefix (s p:ByteArray) (w:World) :
  Calls prog 191 #[.string s,.string p] w fun e w'=>e=.returned (.tuple #[.string ⟨(Lib.trimPrefix s.data.toList p.data.toList).toArray⟩,.bool (Lib.hasPrefix s.data.toList p.data.toList)])/\w'=w:=Any.strings_CutPrefix Tryz.wJ s p w
def Tryz.pU:Go.Shelf.Ren:=⟨fun|104=>192|211=>199|207=>202|n=>n,fun|9=>9|4=>4|24=>240|3=>3|n=>n,fun|n=>n⟩
theorem Tryz.wK:Go.Proofs.Lays.n104 prog Tryz.pU:={
 mixed:=by kernel_rfl
 f104:=Tryz.func192.trans (congrArg some (by kernel_rfl))
 f207:=Tryz.func202.trans (congrArg some (by kernel_rfl))
 f211:=Tryz.func199.trans (congrArg some (by kernel_rfl))
 t3:=underlying3
 a3:=isAgg3
 z3:=sizeOf3
 v3:=zeroValue3
 t4:=underlying4
 a4:=isAgg4
 z4:=sizeOf4
 v4:=zeroValue4
 t9:=underlying9
 a9:=isAgg9
 z9:=sizeOf9
 v9:=zeroValue9
 t24:=underlying240
 a24:=isAgg240
 z24:=sizeOf240
 v24:=zeroValue240}
open Go.RowKit in
theorem Tryz.strings_CutSuffix (s p:ByteArray) (w:World) (hs:s.size<=9223372036854775807) :
  Calls prog 192 #[.string s,.string p] w fun e w'=>e=.returned (.tuple #[.string ⟨(Lib.trimSuffix s.data.toList p.data.toList).toArray⟩,.bool (Lib.hasSuffix s.data.toList p.data.toList)])/\w'=w:=Any.strings_CutSuffix Tryz.wK s p w hs
def Tryz.pV:Go.Shelf.Ren:=⟨fun|122=>148|215=>175|n=>n,fun|3=>3|4=>4|n=>n,fun|n=>n⟩
theorem Tryz.wL:Go.Proofs.Lays.n122 prog Tryz.pV:={
 mixed:=by kernel_rfl
 f122:=Tryz.func148.trans (congrArg some (by kernel_rfl))
 f215:=Tryz.func175.trans (congrArg some (by kernel_rfl))
 t3:=underlying3
 a3:=isAgg3
 z3:=sizeOf3
 v3:=zeroValue3
 t4:=underlying4
 a4:=isAgg4
 z4:=sizeOf4
 v4:=zeroValue4}
open Go.RowKit in
theorem Tryz.cmp_Compare_int (x y:Int) (w:World) :
  Calls prog 148 #[.int .i64 x,.int .i64 y] w fun e w'=>e=.returned (.int .i64 (Lib.compareInt x y))/\w'=w:=Any.cmp_Compare_int Tryz.wL x y w
end Go.Proofs
namespace Go.Proofs.YtcmhaemaophplaaGreat
theorem OB (z:Int) (w:World) :
  Calls prog 200 #[.int .u8 z] w fun e w'=>e=.returned (.bool (T.small z))/\w=w':=by
 unfold T.small
 go_enter func200,ntmps200
 go_wp2;all_goals go_ret
 all_goals (refine⟨aE ?_,rfl⟩;first|rfl|(rw[Bw];simp;done)|(rw[Bw];simp;omega))
theorem PE (z:Int) (w:World) :
  Calls prog 194 #[.int .u8 z] w fun e w'=>e=.returned (.bool (T.head z))/\w=w':=by
 have P1:=fun w=>OB z w;unfold T.head;generalize T.small z=s at *
 go_enter func194,ntmps194
 go_wp2_with fail
 refine(P1 _).mono ?_;rintro _ w' ⟨rfl,rfl⟩;clear P1;cases s <;> go_wp2
 all_goals go_ret
 all_goals (refine⟨aE ?_,rfl⟩;first|rfl|(rw[Bw];simp;done)|(rw[Bw];simp;omega))
theorem Qj (z:Int) (w:World) :
  Calls prog 195 #[.int .u8 z] w fun e w'=>e=.returned (.bool (T.tail z))/\w=w':=by
 unfold T.tail
 go_enter func195,ntmps195
 go_wp2;all_goals go_ret
 all_goals (refine⟨aE ?_,rfl⟩;first|rfl|(rw[Bw];simp;done)|(rw[Bw];simp;omega))
theorem zk (z:Int) (w:World) :
  Calls prog 119 #[.int .u8 z] w fun e w'=>e=.returned (.bool (T.head z))/\w=w':=by
 unfold T.head T.small
 go_enter func119,ntmps119
 go_wp2;all_goals go_ret
 all_goals (refine⟨aE ?_,rfl⟩;first|rfl|(rw[Bw];simp;done)|(rw[Bw];simp;omega))
theorem Ke (z:Int) (w:World) :
  Calls prog 120 #[.int .u8 z] w fun e w'=>e=.returned (.bool (T.fA z))/\w=w':=by
 have P1:=fun w=>zk z w;unfold T.fA T.tail;generalize T.head z=s at *
 go_enter func120,ntmps120
 go_wp2_with fail
 refine(P1 _).mono ?_;rintro _ w' ⟨rfl,rfl⟩;clear P1;cases s <;> go_wp2
 all_goals go_ret
 all_goals (refine⟨aE ?_,rfl⟩;first|rfl|(rw[Bw];simp;done)|(rw[Bw];simp;omega))
theorem Pp (A:Option Addr) (c B:Nat) (l:List Int) (w:World) (hr:il w B A l) (hn:l.length<=5000) :
  Calls prog 182 #[.slice A l.length c] w fun e w'=>e=.returned (.int .i64 (T.ib l))/\w=w':=by
 have HF:=aA (T.p8 l)
 go_enter func182,ntmps182
 go_wp2
 go_loop [3] (fun vi=>∃(k:Nat),k<=l.length/\vi=.int .i64 k/\(k=0\/T.ib l=k+T.run T.fA (l.drop k))) (fun vi=>l.length-(intOf vi).toNat)
 case atStart=>exact⟨0,by omega,rfl,Or.inl rfl⟩
 case round =>
  obtain⟨k,hk,rfl,hs⟩:=hrel;have HS:=aA hs;clear hs;by_cases ad:k<l.length
  ·obtain⟨g,o,rfl,_,aa⟩:=hr (by omega);have ab:=aa k (by omega);have HN:=aA (T.nh T.fA l k ad);have P1:=aA (fun w=>PE (l.getD k 0) w);have P2:=aA (fun w=>Qj (l.getD k 0) w);have HI:Hid (T.fA (l.getD k 0)=(T.head (l.getD k 0)||T.tail (l.getD k 0))):=aA rfl;have ac:Hid (k=0->T.ib l=if T.head (l.getD k 0) then T.run T.fA (l.drop 1)+1 else 0):=aA (by rintro rfl;exact HF.o (by omega));clear aa HF;generalize l.getD k 0=z at *;generalize T.head z=hh at *;generalize T.tail z=tt at *;generalize T.fA z=ii at *;go_wp2_with fail
   refine(P1.o _).mono ?_;rintro _ w' ⟨rfl,rfl⟩;cases hh
   ·by_cases h0:k=0
    ·subst h0;go_wp2;go_ret
     exact⟨aU (by have:=ac.o (by trivial);simp at this;omega),rfl⟩
    ·have h1:0<k:=by omega
     clear h0;go_wp2_with fail
     refine(P2.o _).mono ?_;rintro _ w' ⟨rfl,rfl⟩;cases tt
     ·go_wp2;go_ret
      refine⟨aU ?_,rfl⟩;have e1:=HS.o;have e2:=HN.o;have e3:=HI.o;rw[e3]at e2;simp at e2;omega
     ·go_wp2
      go_round
      case rel =>
       refine⟨k+1,by omega,by go_num,Or.inr ?_⟩;have e1:=HS.o;have e2:=HN.o;have e3:=HI.o;rw[e3]at e2;simp at e2;omega
      case measure=>simp[intOf];omega
   ·go_wp2
    go_round
    case rel =>
     refine⟨k+1,by omega,by go_num,Or.inr ?_⟩;have e1:=HS.o;have e2:=HN.o;have e3:=HI.o;have e4:=ac.o;rw[e3]at e2;rcases e1 with rfl|e1
     ·have:=e4 rfl;simp at this;simp;omega
     ·simp at e2;omega
    case measure=>simp[intOf];omega
  ·obtain rfl:k=l.length:=by omega
   clear hr HF;go_wp2;go_ret
   refine⟨aU ?_,rfl⟩;rcases HS.o with h|h
   ·obtain rfl:=BB h;simp[T.ib]
   ·rw[T.ku _ _ _ (Af _)]at h;omega
theorem K.gI (l:List Int):(K.str l).toList=K.bytes l:=by rw[CP];simp[K.str]
theorem zK {m:List Int} (h:l=m):((K.str l).toList==K.bytes m)=true:=by rw[K.gI,h];simp
theorem zl {m:List Int} (hl:K.Bytes l) (hm:K.Bytes m) (h:¬l=m):((K.str l).toList==K.bytes m)=false:=by
 rw[K.gI,Ba];exact fun e=>h (K.bytes_inj hl hm e)
theorem K.gJ (l:List Int):(K.str l).size=l.length:=by simp[K.str,K.bytes,ByteArray.size]
theorem K.iK (hl:K.Bytes l) (i:Nat) (h:i<(K.str l).size):(((K.str l)[i]'h).toNat:Int)=l.getD i 0:=by
 have h':i<(K.bytes l).length:=by rw[K.gJ]at h;simpa[K.bytes] using h
 rw[<-K.jQ hl i h']
 congr 2
theorem K.of (s:ByteArray):∃l,K.Bytes l/\s=K.str l:=by
 refine⟨s.data.toList.map fun b=>(b.toNat:Int),?_,?_⟩
 ·intro z hz;obtain⟨b,_,rfl⟩:=Bm.1 hz
  have:=b.toNat_lt
  omega
 ·unfold K.str K.bytes;rw[Ef]
  have:((fun z:Int=>UInt8.ofNat z.toNat)∘fun b:UInt8=>(b.toNat:Int))=id:=by
   funext b;simp
  rw[this];simp
theorem NL (l:List Int) (hl:K.Bytes l) (hn:l.length<=9223372036854775807) (w:World) :
  Calls prog 193 #[.string (K.str l)] w fun e w'=>e=.returned (.bool (T.gm l))/\w=w':=by
 by_cases h0:l=[92,110]
 ·have e0:=zK (l:=l) (m:=[92,110]) h0;rw[show K.bytes [92,110]=[92,110] from rfl]at e0;rw[show T.gm l=true from by rw[h0];rfl];clear h0 hl hn;generalize K.str l=s at *
  go_enter func193,ntmps193
  go_wp2;go_ret
  exact⟨rfl,rfl⟩
 have e0:=zl hl (m:=[92,110]) (xo _ (by decide)) h0;rw[show K.bytes [92,110]=[92,110] from rfl]at e0;by_cases h1:l=[92,116]
 ·have e1:=zK (l:=l) (m:=[92,116]) h1;rw[show K.bytes [92,116]=[92,116] from rfl]at e1;rw[show T.gm l=true from by rw[h1];rfl];clear h0 h1 hl hn;generalize K.str l=s at *
  go_enter func193,ntmps193
  go_wp2;go_ret
  exact⟨rfl,rfl⟩
 have e1:=zl hl (m:=[92,116]) (xo _ (by decide)) h1;rw[show K.bytes [92,116]=[92,116] from rfl]at e1;by_cases h2:l=[92,92]
 ·have e2:=zK (l:=l) (m:=[92,92]) h2;rw[show K.bytes [92,92]=[92,92] from rfl]at e2;rw[show T.gm l=true from by rw[h2];rfl];clear h0 h1 h2 hl hn;generalize K.str l=s at *
  go_enter func193,ntmps193
  go_wp2;go_ret
  exact⟨rfl,rfl⟩
 have e2:=zl hl (m:=[92,92]) (xo _ (by decide)) h2;rw[show K.bytes [92,92]=[92,92] from rfl]at e2;by_cases h3:l=[92,39]
 ·have e3:=zK (l:=l) (m:=[92,39]) h3;rw[show K.bytes [92,39]=[92,39] from rfl]at e3;rw[show T.gm l=true from by rw[h3];rfl];clear h0 h1 h2 h3 hl hn;generalize K.str l=s at *
  go_enter func193,ntmps193
  go_wp2;go_ret
  exact⟨rfl,rfl⟩
 have e3:=zl hl (m:=[92,39]) (xo _ (by decide)) h3;rw[show K.bytes [92,39]=[92,39] from rfl]at e3;by_cases h4:l=[39]
 ·have e4:=zK (l:=l) (m:=[39]) h4;rw[show K.bytes [39]=[39] from rfl]at e4;rw[show T.gm l=false from by rw[h4];rfl];clear h0 h1 h2 h3 h4 hl hn;generalize K.str l=s at *
  go_enter func193,ntmps193
  go_wp2;go_ret
  exact⟨rfl,rfl⟩
 have e4:=zl hl (m:=[39]) (xo _ (by decide)) h4;rw[show K.bytes [39]=[39] from rfl]at e4;by_cases h5:l=[92]
 ·have e5:=zK (l:=l) (m:=[92]) h5;rw[show K.bytes [92]=[92] from rfl]at e5;rw[show T.gm l=false from by rw[h5];rfl];clear h0 h1 h2 h3 h4 h5 hl hn;generalize K.str l=s at *
  go_enter func193,ntmps193
  go_wp2;go_ret
  exact⟨rfl,rfl⟩
 have e5:=zl hl (m:=[92]) (xo _ (by decide)) h5;rw[show K.bytes [92]=[92] from rfl]at e5;have d:=K.gJ l;by_cases aa:l.length=1
 ·obtain⟨z,rfl⟩:=List.length_eq_one_iff.1 aa;have hz:=hl.hd
  have hv:T.gm [z]=(decide (32<=z)&&decide (z<=126)):=by
   have n1:(z != 39)=true:=by simpa using h4
   have n2:(z != 92)=true:=by simpa using h5
   simp[T.gm,n1,n2]
  rw[hv];have hb:∀h:0<(K.str [z]).size,(((K.str [z])[0]'h).toNat:Int)=z:=fun h=>K.iK hl 0 h;simp only[BC,Eg]at d;clear h0 h1 h2 h3 h4 h5 hl hn hv aa;generalize K.str [z]=s at *;have ab:((s.size:Int)==1)=true:=by rw[d];rfl
  have ac:0<s.size:=by omega
  have ad:=hb ac;clear d hb
  go_enter func193,ntmps193
  go_wp2;all_goals go_ret
  all_goals (refine⟨aE ?_,rfl⟩;first|rfl|(rw[Bw];simp;done)|(rw[Bw];simp;omega))
 ·have hv:T.gm l=false:=by
   match l with
   | []=>rfl
   | [z]=>exact absurd rfl aa
   | [a,b] =>
    simp only[T.gm,ER,Ba.2 h0,Ba.2 h1,Ba.2 h2,Ba.2 h3]
   | a::b::c::r=>simp[T.gm]
  rw[hv];have ab:(((K.str l).size:Int)==1)=false:=by rw[d];exact Ba.2 (by omega)
  clear h0 h1 h2 h3 h4 h5 hl hn hv aa d;generalize K.str l=s at *
  go_enter func193,ntmps193
  go_wp2;go_ret
  exact⟨rfl,rfl⟩
theorem K.lC (l:List Int):(K.str l).data.toList=K.bytes l:=by simp[K.str]
theorem PG (r:List Int):Lib.hasPrefix (K.bytes (39::r)) [39]=true:=by
 simp[Lib.hasPrefix,K.bytes,List.isPrefixOf]
theorem Q7 (hl:K.Bytes l) (h:∀r,l≠39::r):Lib.hasPrefix (K.bytes l) [39]=false:=by
 cases l with
 | nil=>rfl
 | cons z r =>
  have hz:=hl.hd;have hn:z≠39:=fun e=>h r (by rw[e]);simp only[Lib.hasPrefix,K.bytes,Bz,List.isPrefixOf,Bool.and_true];rw[Ba];intro e
  have:=congrArg UInt8.toNat e
  simp at this;omega
theorem PM (r:List Int) (w:World) :
  Calls prog 191 #[.string (K.str (39::r)),.string ⟨#[39]⟩] w fun e w'=>e=.returned (.tuple #[.string (K.str r),.bool true])/\w=w':=by
 refine(Tryz.strings_CutPrefix (K.str (39::r)) ⟨#[39]⟩ w).mono fun e w' ⟨he,hw⟩=>⟨he.trans ?_,hw.symm⟩
 rw[K.lC];have h:=PG r;unfold Lib.trimPrefix;rw[show(#[39]:Array UInt8).toList=[39] from rfl,h,AC rfl];rfl
theorem Re (l:List Int) (hl:K.Bytes l) (h:∀r,l≠39::r) (w:World) :
  Calls prog 191 #[.string (K.str l),.string ⟨#[39]⟩] w fun e w'=>e=.returned (.tuple #[.string (K.str l),.bool false])/\w=w':=by
 refine(Tryz.strings_CutPrefix (K.str l) ⟨#[39]⟩ w).mono fun e w' ⟨he,hw⟩=>⟨he.trans ?_,hw.symm⟩
 rw[K.lC];have h:=Q7 hl h;unfold Lib.trimPrefix;rw[show(#[39]:Array UInt8).toList=[39] from rfl,h,AI (by simp)];rfl
theorem PF (m:List Int):Lib.hasSuffix (K.bytes (m++[39])) [39]=true:=by
 unfold Lib.hasSuffix;rw[List.isSuffixOf_iff_suffix];exact⟨K.bytes m,by simp[K.bytes]⟩
theorem Q6 (hl:K.Bytes l) (h:∀m,l≠m++[39]):Lib.hasSuffix (K.bytes l) [39]=false:=by
 rw[Dv];intro e;unfold Lib.hasSuffix at e;rw[List.isSuffixOf_iff_suffix]at e;obtain⟨t,ht⟩:=e;rcases List.eq_nil_or_concat l with rfl|⟨m,z,rfl⟩
 ·simp[K.bytes]at ht
 ·have hz:=hl z (by simp);have hk:K.bytes (m.concat z)=K.bytes m++[UInt8.ofNat z.toNat]:=by simp[K.bytes]
  rw[hk]at ht
  have:=List.append_inj_right' ht rfl
  injection this with this _
  have:=congrArg UInt8.toNat this
  simp at this;exact h m (by simp;omega)
theorem K1 (m:List Int) (hn:m.length<9223372036854775807) (w:World) :
  Calls prog 192 #[.string (K.str (m++[39])),.string ⟨#[39]⟩] w fun e w'=>e=.returned (.tuple #[.string (K.str m),.bool true])/\w=w':=by
 refine(Tryz.strings_CutSuffix (K.str (m++[39])) ⟨#[39]⟩ w (by rw[K.gJ];simp;omega)).mono fun e w' ⟨he,hw⟩=>⟨he.trans ?_,hw.symm⟩
 rw[K.lC];have h:=PF m;unfold Lib.trimSuffix;rw[show(#[39]:Array UInt8).toList=[39] from rfl,h,AC rfl]
 have:(K.bytes (m++[39])).take ((K.bytes (m++[39])).length-[(39:UInt8)].length)=K.bytes m:=by
  have e:K.bytes (m++[39])=K.bytes m++[39]:=by simp[K.bytes]
  rw[e];simp
 rw[this];rfl
theorem Lt (l:List Int) (hl:K.Bytes l) (hn:l.length<=9223372036854775807) (h:∀m,l≠m++[39]) (w:World) :
  Calls prog 192 #[.string (K.str l),.string ⟨#[39]⟩] w fun e w'=>e=.returned (.tuple #[.string (K.str l),.bool false])/\w=w':=by
 refine(Tryz.strings_CutSuffix (K.str l) ⟨#[39]⟩ w (by rw[K.gJ];omega)).mono fun e w' ⟨he,hw⟩=>⟨he.trans ?_,hw.symm⟩
 rw[K.lC];have h:=Q6 hl h;unfold Lib.trimSuffix;rw[show(#[39]:Array UInt8).toList=[39] from rfl,h,AI (by simp)];rfl
theorem RK (l:List Int) (hl:K.Bytes l) (hn:l.length<=9223372036854775807) (w:World) :
  Calls prog 181 #[.string (K.str l)] w fun e w'=>e=.returned (.bool (T.isLit l))/\w=w':=by
 by_cases hb:∃r,l=39::r
 ·obtain⟨r,rfl⟩:=hb;have P1:=aA (fun w=>PM r w);have hr:K.Bytes r:=hl.tl;have aa:r.length<9223372036854775807:=by simp at hn;omega
  by_cases he:∃m,r=m++[39]
  ·obtain⟨m,rfl⟩:=he;have ab:m.length<9223372036854775807:=by simp at aa;omega
   have P2:=aA (fun w=>K1 m ab w);have P3:=aA (fun w=>NL m (fun z hz=>hr z (by simp[hz])) (by omega) w);rw[T.s8 m];clear hl hn hr aa ab;generalize K.str (39::(m++[39]))=s at *;generalize K.str (m++[39])=s2 at *;generalize K.str m=s3 at *;generalize T.gm m=b at *
   go_enter func181,ntmps181
   go_wp2_with fail
   refine(P1.o _).mono ?_;rintro _ w' ⟨rfl,rfl⟩;go_wp2_with fail
   refine(P2.o _).mono ?_;rintro _ w' ⟨rfl,rfl⟩;go_wp2_with fail
   refine(P3.o _).mono ?_;rintro _ w' ⟨rfl,rfl⟩;go_wp2;go_ret
   exact⟨rfl,rfl⟩
  ·have P2:=aA (fun w=>Lt r hr (by omega) (fun m e=>he ⟨m,e⟩) w)
   have hv:T.isLit (39::r)=false:=by
    rcases hq:T.isLit (39::r) with _|_
    ·rfl
    ·obtain⟨m,hm⟩:=T.kI _ hq;injection hm with _ hm;exact absurd ⟨m,hm⟩ he
   rw[hv];clear hl hn hr aa he hv;generalize K.str (39::r)=s at *;generalize K.str r=s2 at *
   go_enter func181,ntmps181
   go_wp2_with fail
   refine(P1.o _).mono ?_;rintro _ w' ⟨rfl,rfl⟩;go_wp2_with fail
   refine(P2.o _).mono ?_;rintro _ w' ⟨rfl,rfl⟩;go_wp2;go_ret
   exact⟨rfl,rfl⟩
 ·have P1:=aA (fun w=>Re l hl (fun r e=>hb ⟨r,e⟩) w)
  have hv:T.isLit l=false:=by
   rcases hq:T.isLit l with _|_
   ·rfl
   ·obtain⟨m,hm⟩:=T.kI _ hq;exact absurd ⟨_,hm⟩ hb
  have P2:Hid (∃(s2:ByteArray) (b:Bool),∀w,Calls prog 192 #[.string (K.str l),.string ⟨#[39]⟩] w fun e w'=>e=.returned (.tuple #[.string s2,.bool b])/\w=w'):=by
   refine aA ?_;by_cases he:∃m,l=m++[39]
   ·obtain⟨m,rfl⟩:=he;exact⟨K.str m,true,fun w=>K1 m (by simp at hn;omega) w⟩
   ·exact⟨K.str l,false,fun w=>Lt l hl hn (fun m e=>he ⟨m,e⟩) w⟩
  obtain⟨s2,b,P2⟩:=P2.o
  replace P2:=aA P2
  rw[hv];clear hl hn hb hv;generalize K.str l=s at *
  go_enter func181,ntmps181
  go_wp2_with fail
  refine(P1.o _).mono ?_;rintro _ w' ⟨rfl,rfl⟩;go_wp2_with fail
  refine(P2.o _).mono ?_;rintro _ w' ⟨rfl,rfl⟩;go_wp2;go_ret
  exact⟨rfl,rfl⟩
def xA (w:World) (l:List Int):Nat:=grownCap w l.length 0 5
def As (w:World) (l:List Int):Obj:=.cells (bytesRow (K.str l) (xA w l)) 5 ((bytesRow (K.str l) (xA w l)).size,(bytesRow (K.str l) (xA w l)).size+1)
theorem Oy (w:World) (l:List Int):(convert 9 65 (.string (K.str l))).run prog w=.ok (.slice (some ⟨w.heap.size,0,none⟩) l.length (xA w l)) (w.drew.alloc (As w l)):=by
 have:=run_bytes_of_string (P:=prog) w 9 65 5 (K.str l) underlying9 underlying65 underlying5
 rw[K.gJ]at this;exact this
theorem Mg (w:World) (l:List Int) (hl:K.Bytes l):il (w.drew.alloc (As w l)) (w.drew.alloc (As w l)).heap.size (some ⟨w.heap.size,0,none⟩) l/\Below w.heap.size w (w.drew.alloc (As w l))/\l.length<=xA w l:=by
 refine⟨fun _=>⟨w.heap.size,0,rfl,by simp,fun j hj=>?_⟩,(aB (AB _ _) 1).alloc (Af _) _,grownCap_ge w l.length 0 _⟩
 have:=World.cell?_alloc_mark w.drew (bytesRow (K.str l) (xA w l)) 5 ((bytesRow (K.str l) (xA w l)).size,(bytesRow (K.str l) (xA w l)).size+1) (0+j)
 rw[show w.drew.heap.size=w.heap.size from rfl]at this;unfold As;rw[this];have aa:j<(K.bytes l).length:=by simpa[K.bytes] using hj
 have h2:0+j<(K.str l).data.size:=by simpa[K.str] using aa
 rw[bytesRow_at (K.str l) _ (0+j) h2]
 have:=K.jQ hl j aa
 rw[<-this];simp[K.str]
theorem KQ (l:List Int) (hl:K.Bytes l) (w:World) :
  Calls prog 158 #[.string (K.str l)] w fun e w'=>e=.returned (.bool (T.isName l))/\Below w.heap.size w w':=by
 have ab:=K.gJ l;by_cases h0:l=[]
 ·subst h0;have e0:(K.str []).toList=[]:=by rw[K.gI];rfl
  have hv:T.isName []=false:=by decide
  rw[hv];clear ab hl hv;generalize K.str []=s at *
  go_enter func158,ntmps158
  go_wp2;go_ret
  exact⟨rfl,AB _ _⟩
 ·have e0:=zl hl (m:=[]) (xo _ (by decide)) h0;rw[show K.bytes []=[] from rfl]at e0;have e2:¬(K.str l).toList=[]:=by simpa using e0
  have e1:(!(K.str l).toList.isEmpty)=true:=by
   rw[K.gI];cases l with
   | nil=>exact absurd rfl h0
   | cons z r=>rfl
  have aa:l.length≠0:=fun e=>h0 (BB e);by_cases ac:l.length<=20
  ·have hv:T.isName l=(((T.ib l:Nat):Int)==(l.length:Int)):=by
    unfold T.isName;rw[AQ ac,AQ aa,Ck,Ck,Bw]
    simp;omega
   have C1:=fun w=>Oy w l;have P1:=aA (fun(w:World)=>(Pp (some ⟨w.heap.size,0,none⟩) (xA w l) _ l (w.drew.alloc (As w l)) (Mg w l hl).1 (by omega)));have B1:=aA (fun(w:World)=>(Mg w l hl).2.1);rw[hv];clear hv aa h0 hl;generalize T.ib l=n at *;have ad:(l.length:Int)<=20:=by omega
   clear ac;generalize l.length=m at *;have HZ:=aA ab;have ae:((K.str l).size:Int)=m:=by omega
   clear ab;generalize K.str l=s at *
   go_enter func158,ntmps158
   go_wp2_with (simp only[C1])
   refine(P1.o _).mono ?_;rintro _ w' ⟨rfl,rfl⟩;go_wp2;go_ret
   exact⟨rfl,B1.o w⟩
  ·have hv:T.isName l=false:=by unfold T.isName;rw[AM ac];rfl
   rw[hv];have af:¬((K.str l).size:Int)<=20:=by omega
   clear hv aa h0 hl ac ab;generalize K.str l=s at *
   go_enter func158,ntmps158
   go_wp2;go_ret
   exact⟨rfl,AB _ _⟩
theorem Hz (l:List Int) (hl:K.Bytes l) (w:World) :
  Calls prog 84 #[.string (K.str l)] w fun e w'=>e=.returned (.bool (T.isName l))/\w=w':=by
 have d:=K.gJ l;by_cases h0:l.length=0
 ·obtain rfl:=BB h0;rw[show T.isName []=false from rfl];have af:((K.str []).size:Int)=0:=by rw[d];rfl
  clear d hl h0;generalize K.str []=s at *
  go_enter func84,ntmps84
  go_wp2;go_ret
  exact⟨rfl,rfl⟩
 by_cases f:l.length<=20
 ·have b:=T.mQ l;rw[AQ h0,AQ f,Ck,Ck]at b;have hp:0<(K.str l).size:=by omega
  have ac:=K.iK hl 0 hp;have P1:=aA (fun w=>zk (l.getD 0 0) w);have ag:(((K.str l).size:Int)==0)=false:=Ba.2 (by omega);have ah:((K.str l).size:Int)<=20:=by omega
  by_cases hh:T.head (l.getD 0 0)=true
  ·rw[hh,Ck]at b;have HI:=aA b;have aa:(l.length:Int)=((K.str l).size:Int):=by omega
   have HB:=aA (fun k h=>K.iK hl k h);have HP:=aA (fun k w=>Ke (l.getD k 0) w);rw[hh]at P1;have HL:=aA d;clear d aa b hh h0 f hl;generalize l.getD 0 0=z at *;generalize T.isName l=res at *;generalize K.str l=s at *
   go_enter func84,ntmps84
   go_wp2_with fail
   refine(P1.o _).mono ?_;rintro _ w' ⟨rfl,rfl⟩;go_wp2
   go_loop [3] (fun vi=>∃(k:Nat),k<=s.size/\vi=.int .i64 k/\∀j,j<k->T.fA (l.getD j 0)=true) (fun vi=>s.size-(intOf vi).toNat)
   case atStart=>exact⟨0,by omega,rfl,fun j hj=>by omega⟩
   case round =>
    obtain⟨k,hk,rfl,hs⟩:=hrel;have HS:=aA hs;clear hs ac P1;by_cases ad:k<s.size
    ·have ai:=HB.o k ad;have P2:=aA (HP.o k);rcases hq:T.fA (l.getD k 0) with _|_
     ·have HF:Hid (T.fA (l.getD k 0)=false):=aA hq;rw[hq]at P2;clear hq;have HK:Hid (k<l.length):=aA (by have:=HL.o;omega);generalize hz:l.getD k 0=z at *;have HZ:=aA hz;clear hz;go_wp2_with fail
      refine(P2.o _).mono ?_;rintro _ w' ⟨rfl,rfl⟩;go_wp2;go_ret
      refine⟨aE ?_,rfl⟩;rw[HI.o]
      symm
      apply AM;intro h;have h1:=h k HK.o;have h2:=HF.o;rw[HZ.o]at h1;rw[h1]at h2;cases h2
     ·have HF:Hid (T.fA (l.getD k 0)=true):=aA hq;rw[hq]at P2;clear hq;generalize hz:l.getD k 0=z at *;have HZ:=aA hz;clear hz;go_wp2_with fail
      refine(P2.o _).mono ?_;rintro _ w' ⟨rfl,rfl⟩;go_wp2
      go_round
      case rel =>
       refine⟨k+1,by omega,by go_num,fun j hj=>?_⟩;by_cases ae:j=k
       ·subst ae;rw[HZ.o];exact HF.o
       ·exact HS.o j (by omega)
      case measure=>simp[intOf];omega
    ·obtain rfl:k=s.size:=by omega
     go_wp2;go_ret
     refine⟨aE ?_,rfl⟩;rw[HI.o]
     symm
     apply AQ;intro j hj;exact HS.o j (by have:=HL.o;omega)
  ·have ab:T.head (l.getD 0 0)=false:=by simpa using hh
   rw[ab,CI]at b;rw[b];rw[ab]at P1;clear d b hh ab h0 f hl;generalize l.getD 0 0=z at *;generalize K.str l=s at *
   go_enter func84,ntmps84
   go_wp2_with fail
   refine(P1.o _).mono ?_;rintro _ w' ⟨rfl,rfl⟩;go_wp2;go_ret
   exact⟨rfl,rfl⟩
 ·have hv:T.isName l=false:=by unfold T.isName;rw[AM f];rfl
  rw[hv];have aj:((K.str l).size:Int) > 20:=by omega
  have ak:(((K.str l).size:Int)==0)=false:=Ba.2 (by omega);clear hv h0 hl f d;generalize K.str l=s at *
  go_enter func84,ntmps84
  go_wp2;go_ret
  exact⟨rfl,rfl⟩
theorem Ih (l:List Int) (hl:K.Bytes l) (w:World) :
  Calls prog 118 #[.string (K.str l)] w fun e w'=>e=.returned (.bool (T.isLit l))/\w=w':=by
 have f:=K.gJ l;by_cases h3:l.length=3
 ·obtain⟨a,b,c,rfl⟩:∃a b c,l=[a,b,c]:=by
   match l,h3 with
   | [a,b,c],_=>exact⟨a,b,c,rfl⟩
  clear h3;have hs:(K.str [a,b,c]).size=3:=f;have g:0<(K.str [a,b,c]).size:=by omega
  have i:1<(K.str [a,b,c]).size:=by omega
  have j:2<(K.str [a,b,c]).size:=by omega
  have ab:(((K.str [a,b,c])[0]'g).toNat:Int)=a:=K.iK hl 0 g;have ac:(((K.str [a,b,c])[1]'i).toNat:Int)=b:=K.iK hl 1 i;have ad:(((K.str [a,b,c])[2]'j).toNat:Int)=c:=K.iK hl 2 j;have hq:(((K.str [a,b,c]).size:Int)==3)=true:=by rw[hs];rfl
  unfold T.isLit;clear hs f hl;generalize K.str [a,b,c]=s at *
  go_enter func118,ntmps118
  go_wp2;all_goals go_ret
  all_goals (refine⟨aE ?_,rfl⟩;first|(simp_all;done)|(simp_all;omega))
 by_cases h4:l.length=4
 ·obtain⟨a,b,c,d,rfl⟩:∃a b c d,l=[a,b,c,d]:=by
   match l,h4 with
   | [a,b,c,d],_=>exact⟨a,b,c,d,rfl⟩
  clear h3 h4;have hs:(K.str [a,b,c,d]).size=4:=f;have g:0<(K.str [a,b,c,d]).size:=by omega
  have i:1<(K.str [a,b,c,d]).size:=by omega
  have j:2<(K.str [a,b,c,d]).size:=by omega
  have aa:3<(K.str [a,b,c,d]).size:=by omega
  have ab:(((K.str [a,b,c,d])[0]'g).toNat:Int)=a:=K.iK hl 0 g;have ac:(((K.str [a,b,c,d])[1]'i).toNat:Int)=b:=K.iK hl 1 i;have ad:(((K.str [a,b,c,d])[2]'j).toNat:Int)=c:=K.iK hl 2 j;have af:(((K.str [a,b,c,d])[3]'aa).toNat:Int)=d:=K.iK hl 3 aa;have ae:(((K.str [a,b,c,d]).size:Int)==3)=false:=by rw[hs];rfl
  have hq:(((K.str [a,b,c,d]).size:Int)==4)=true:=by rw[hs];rfl
  unfold T.isLit;clear hs f hl;generalize K.str [a,b,c,d]=s at *
  go_enter func118,ntmps118
  go_wp2;all_goals go_ret
  all_goals (refine⟨aE ?_,rfl⟩;first|(simp_all;done)|(simp_all;omega))
 ·have hv:T.isLit l=false:=by
   rcases hq:T.isLit l with _|_
   ·rfl
   ·have:=T.iV hq;omega
  rw[hv];have ae:(((K.str l).size:Int)==3)=false:=Ba.2 (by omega);have ag:(((K.str l).size:Int)==4)=false:=Ba.2 (by omega);clear hv hl f h3 h4;generalize K.str l=s at *
  go_enter func118,ntmps118
  go_wp2;go_ret
  exact⟨rfl,rfl⟩
end Go.Proofs.YtcmhaemaophplaaGreat
