/- Part of the proofs over this program: Shared, WordsI, WordsB, Bytes, GramL, LexL, GmL, Calm, CfgLeaf, Shelf, LexFn, LexStr, LexRef. -/
import Derived.Test.YtjjbaehamplnaaaGreatProg
import Derived.WalkKit
import Derived.WalkSpells
import Derived.WalkLawsBesides
import Derived.Deep.Draws
import Derived.BigQuiet
import Derived.Deep.QuietTactic
import Derived.RegionTactic
import Derived.Deep.DeepFit
import Derived.Deep.RegionWith
import Derived.Laws.CopyOwn
import Derived.Laws.OwnMore
import Derived.OwnWalk
import Derived.ProofKit
import Derived.OpenShut
import Derived.Laws.IdiomStrings
import Derived.Lib.IndexLaws
import Derived.Lib.IndexMore
import Derived.Lib.Strings
import Derived.Lib.Bytes
import Derived.Lib.Index
import Derived.OrdersHeld
import Derived.IntWalk
import Derived.Shelf.Small.Bits
import Derived.Shelf.Small.Wraps
import Derived.Shelf.Strconv.Itoa0
import Derived.Shelf.Strings.Prefix
import Derived.Shelf.Bits.Mul64
set_option linter.all false
namespace Go
def Ag:=@Nat.le_trans
def BI:=@Go.RowKit.Below.heap_alloc
def Ao:=@Nat.lt_of_lt_of_le
def AH:=@Go.RowKit.Below.heap_setCell
def CO:=@Go.run_underlying
def CJ:=@List.ext_getElem
def AO:=@List.take_succ_eq_append_getElem
def Bw:=@List.getElem?_append_left
def Cg:=@List.getElem?_append_right
def CY:=@List.set_append_right
def Bx:=@List.drop_eq_getElem_cons
def Aw:=@Go.cell_of_row
def Ad:=@Nat.le_refl
def Ee:=@Go.World.cell?_alloc_lt
def Ch:=@Go.World.cell?_of_block
def Bc:=@List.length_take
def CW:=@List.getElem_take
def Bz:=@Nat.lt_or_ge
def DU:=@Array.getElem?_eq_none
def AD:=@Go.frozen_of_row
def Az:=@Go.heap_alloc_new
def AP:=@Go.heap_setCell_same
def Ef:=@Array.ext'
def Cs:=@List.map_set
def Dl:=@List.getElem_drop
def Aq:=@Go.RowKit.Below.refl
def CR:=@Go.World.ownsRow_nil
def Db:=@Go.World.ownsRow.alloc
def Ac:=@Array.getElem?_eq_some_iff
def Cw:=@Go.World.ownsRow.cells
def Eg:=@Go.World.ownsRow.cellAt
def Dk:=@Go.World.ownsRow.stored
def Dp:=@List.length_set
def Cb:=@List.take_of_length_le
def CD:=@Go.info_parts
def Dd:=@Nat.mul_one
def Eh:=@Go.toList_madeCells_one
def AI:=@Go.World.grownBy.refl
def Bv:=@List.eq_nil_of_length_eq_zero
def Bb:=@List.length_map
def DB:=@Nat.min_eq_left
def Ba:=@List.getElem?_eq_some_iff
def BC:=@List.getElem?_map
def Ar:=@List.getElem?_eq_getElem
def Bi:=@List.mem_map
def Dm:=@Go.wpList_append_own
def AU:=@List.length_append
def AW:=@List.map_append
def Bs:=@Go.World.ownsRow.lt
def Dh:=@Nat.eq_zero_or_pos
def DE:=@Option.some.inj
def Bh:=@List.mem_cons_of_mem
def Bf:=@List.mem_cons_self
def Bj:=@List.mem_append
def CS:=@List.mem_of_mem_drop
def Ay:=@List.getElem_mem
def Df:=@List.mem_or_eq_of_mem_set
def Bl:=@List.length_drop
def C3:=@List.getElem_map
def BP:=@List.all_eq_true
def AB:=@if_neg
def DV:=@List.map_map
def Ev:=@List.getElem_append_left
def BV:=@List.drop_eq_nil_of_le
def Ap:=@if_pos
def Bn:=@Bool.eq_iff_iff
def AQ:=@Bool.and_eq_true
def AV:=@decide_eq_true_eq
def Cx:=@List.cons_append
def CT:=@Option.map_eq_some_iff
def Bp:=@List.map_cons
def CU:=@List.map_nil
def AY:=@beq_eq_false_iff_ne
def Bt:=@List.length_cons
def Bq:=@List.mem_cons
def BO:=@Classical.byContradiction
def BB:=@List.getElem_of_mem
def EF:=@Go.Sem.run_bind
def C8:=@Go.Sem.run_pure
def Ey:=@List.length_nil
def Bu:=@Nat.zero_add
def Cr:=@Go.IntWalk.i64_in
def AM:=@decide_eq_false
def Dc:=@Go.Calls.quiet_of_same
def BH:=@beq_iff_eq
def CH:=@Go.ByteArray.toList_eq
def AX:=@Nat.zero_le
def AJ:=@decide_eq_true
def Eb:=@Bool.eq_false_iff
def Cj:=@Bool.true_and
def C9:=@Bool.false_and
end Go
set_option maxRecDepth 100000
set_option maxHeartbeats 40000000
variable {A:Option Go.Addr} {B B' base base' g k n:Nat} {P:Go.Program} {fr:Nat×Nat} {l ls r zs:List Int} {ns:List (List Int)} {ops:Array Go.Oper} {p:Go.Addr} {v:Go.Value} {w w':Go.World} {z:Int}
namespace Go.Proofs.YtjjbaehamplnaaaGreat
theorem _root_.Go.RowKit.Hid.o {p:Prop} (h:Go.RowKit.Hid p):p:=h
end Go.Proofs.YtjjbaehamplnaaaGreat

namespace Go.Proofs.YtjjbaehamplnaaaGreat
open Go.RowKit
theorem aA {p:Prop} (h:p):Hid p:=h
theorem zfT {a:World} {row:Option Nat} (h:a.grownBy w row) (n:Nat):a.grownBy (w.drewN n) row:=⟨h.os,h.tape,h.output,h.size,h.block⟩
theorem aG {a:World} {row:Option Nat} (h:a.grownBy w row) (o:Obj):a.grownBy (w.alloc o) row :=
 ⟨h.os,h.tape,h.output,Ag h.size (by simp),fun i hi aa=>(BI w o i (Ao hi h.size)).trans (h.block i hi aa)⟩
theorem aF {a:World} (h:a.grownBy w (some g)) (i:Nat) (u:Value):a.grownBy (w.setCell ⟨g,i,none⟩ u) (some g) :=
 ⟨h.os,h.tape,h.output,by simpa[World.setCell] using h.size,fun k hk aa=>(AH w ⟨g,i,none⟩ u k (by rintro rfl;exact aa rfl)).trans (h.block k hk aa)⟩
theorem zae {a b c:World} {row:Option Nat} (h:a.grownBy b row) (k:b.grownBy c row):a.grownBy c row :=
 ⟨k.os.trans h.os,k.tape.trans h.tape,k.output.trans h.output,Ag h.size k.size,fun i hi aa=>(k.block i (Ao hi h.size) aa).trans (h.block i hi aa)⟩
theorem zab {a:World} (h:Below a.heap.size a w) (row:Option Nat):a.grownBy w row:=⟨h.os,h.tape,h.output,h.size,fun i hi _=>h.block i hi⟩
theorem zaa {a:World} (h:Below B a w) (hg:w.grownBy w' (some g)) (hB:B<=g) (hs:B<=w.heap.size):Below B a w' :=
 h.grown hg hs (fun k e=>by injection e with e;omega)
theorem aB {a:World} (h:Below B a w) (n:Nat):Below B a (w.drewN n):=⟨h.os,h.tape,h.output,h.size,h.block⟩
theorem aP {k:IntKind} {a b:Int} (h:a=b):Ending.returned (.int k a)=.returned (.int k b):=by rw[h]
theorem aD {a b:Bool} (h:a=b):Ending.returned (.bool a)=.returned (.bool b):=by rw[h]
theorem zbC (w:World) (g:Nat) (cs:Array Value):w.grownBy (w.setRow g cs) (some g) :=
 ⟨rfl,rfl,rfl,by simp,fun k _ aa=>setRow_other w g k cs (fun e=>aa (by rw[e]))⟩
theorem zar (w:World) (base:Nat) (t ty e:TypeId) (i:TypeInfo) (size:Nat) (ht:P.underlying t=some (.slice e)) (hi:P.info? e=some i) (v:Value) (n:Nat) (xs:List Value) (aa:w.ownsRow base e size v n xs) (c:Nat) :
  (Builtin.append_ #[t,t] ty #[v,.slice none 0 c]).run P w=.ok v w:=by
 rcases aa.2 with⟨rfl,rfl⟩|⟨g,cap,cur,rfl,_,_,ab,_⟩
 ·simp[Builtin.append_,CO ht,sizeOf,typeInfo,hi,Builtin.lenOf,Builtin.firstCells]
 ·simp[Builtin.append_,CO ht,sizeOf,typeInfo,hi,Builtin.lenOf,Builtin.firstCells,ab,storeCells]
theorem L.gd_lt (h:k<l.length):l.getD k 0=l[k]:=by simp[List.getD,h]
theorem L.gd_ge (h:l.length<=k):l.getD k 0=0:=by simp[List.getD,h]
theorem L.getD_ext {m:List Int} (h:l.length=m.length) (k:∀i,i<l.length->l.getD i 0=m.getD i 0):l=m:=by
 apply CJ h;intro i h1 h2
 have:=k i h1
 rwa [L.gd_lt h1,L.gd_lt h2]at this
theorem L.take_snoc (l:List Int) (k:Nat) (h:k<l.length):l.take (k+1)=l.take k++[l.getD k 0]:=by
 rw[L.gd_lt h,AO h]
theorem L.mid_getD (pre xs post:List Int) (k:Nat) (h:k<xs.length):(pre++xs++post).getD (pre.length+k) 0=xs.getD k 0:=by
 simp only[List.getD];rw[Bw (by simp;omega),Cg (by omega),show pre.length+k-pre.length=k by omega]
theorem L.mid_set (pre xs post:List Int) (k:Nat) (z:Int) (h:k<xs.length):(pre++xs++post).set (pre.length+k) z=pre++xs.set k z++post:=by
 rw[List.set_append_left _ _ (by simp;omega),CY _ _ (by omega),show pre.length+k-pre.length=k by omega]
theorem L.cons_drop (l:List Int) (k:Nat) (h:k<l.length):l.drop k=l.getD k 0::l.drop (k+1):=by
 rw[L.gd_lt h,Bx h]
theorem aM {a:Value} {l:List Value} {T:TypeId} (h:w.heap[g]?=some (.cells (List.toArray (a::l)) T fr)):w.cell? ⟨g,0,none⟩=some a:=Aw w g 0 _ _ _ h
theorem aR {a b:Value} {l:List Value} {T:TypeId} (h:w.heap[g]?=some (.cells (List.toArray (a::b::l)) T fr)):w.cell? ⟨g,1,none⟩=some b:=Aw w g 1 _ _ _ h
theorem bF {a b c:Value} {l:List Value} {T:TypeId} (h:w.heap[g]?=some (.cells (List.toArray (a::b::c::l)) T fr)):w.cell? ⟨g,2,none⟩=some c:=Aw w g 2 _ _ _ h
theorem bQ {a b c d:Value} {l:List Value} {T:TypeId} (h:w.heap[g]?=some (.cells (List.toArray (a::b::c::d::l)) T fr)):w.cell? ⟨g,3,none⟩=some d:=Aw w g 3 _ _ _ h
theorem zdZ {a b c d e:Value} {l:List Value} {T:TypeId} (h:w.heap[g]?=some (.cells (List.toArray (a::b::c::d::e::l)) T fr)):w.cell? ⟨g,4,none⟩=some e:=Aw w g 4 _ _ _ h
theorem zgW {a b c d e f:Value} {l:List Value} {T:TypeId} (h:w.heap[g]?=some (.cells (List.toArray (a::b::c::d::e::f::l)) T fr)):w.cell? ⟨g,5,none⟩=some f:=Aw w g 5 _ _ _ h
theorem zjG {a b c d e f i:Value} {l:List Value} {T:TypeId} (h:w.heap[g]?=some (.cells (List.toArray (a::b::c::d::e::f::i::l)) T fr)):w.cell? ⟨g,6,none⟩=some i:=Aw w g 6 _ _ _ h
theorem znk {a b c d e f i j:Value} {l:List Value} {T:TypeId} (h:w.heap[g]?=some (.cells (List.toArray (a::b::c::d::e::f::i::j::l)) T fr)):w.cell? ⟨g,7,none⟩=some j:=Aw w g 7 _ _ _ h
end Go.Proofs.YtjjbaehamplnaaaGreat
namespace Go.Proofs.YtjjbaehamplnaaaGreat
open Go.RowKit Go.ChangeShapes Go.WideShapes Go.ChangeAt
def RdI (w:World) (B:Nat) (A:Option Addr) (zs:List Int):Prop :=
 zs.length≠0->∃g o,A=some ⟨g,o,none⟩/\g<B/\∀j,j<zs.length->w.cell? ⟨g,o+j,none⟩=some (.int .i64 (zs.getD j 0))
theorem RdI.nil (w:World) (B:Nat) (A:Option Addr):RdI w B A []:=fun h=>absurd rfl h
theorem RdI.keep (h:RdI w B A zs) (hk:∀g o,g<B->w'.cell? ⟨g,o,none⟩=w.cell? ⟨g,o,none⟩):RdI w' B A zs:=fun hn=>by
 obtain⟨g,o,e,hg,hc⟩:=h hn;exact⟨g,o,e,hg,fun j hj=>(hk _ _ hg).trans (hc j hj)⟩
theorem RdI.more (h:RdI w B A zs) (hB:B<=B'):RdI w B' A zs:=fun hn=>by
 obtain⟨g,o,e,hg,hc⟩:=h hn;exact⟨g,o,e,by omega,hc⟩
theorem RdI.below (h:RdI w B A zs) (hb:Below B' w w') (hB:B<=B'):RdI w' B A zs :=
 h.keep fun g o hg=>hb.cell (p:=⟨g,o,none⟩) (Ao hg hB)
theorem RdI.up (h:RdI w w.heap.size A zs) (hb:Below w.heap.size w w'):RdI w' w'.heap.size A zs:=(h.below hb (Ad _)).more hb.size
theorem RdI.drewN (h:RdI w B A zs) (n:Nat):RdI (w.drewN n) B A zs:=h
theorem RdI.drew (h:RdI w B A zs):RdI w.drew B A zs:=h
theorem RdI.alloc (h:RdI w B A zs) (hB:B<=w.heap.size) (o:Obj):RdI (w.alloc o) B A zs :=
 h.keep fun g i hg=>Ee w o ⟨g,i,none⟩ (Ao hg hB)
theorem RdI.grown (h:RdI w B A zs) (hg:w.grownBy w' (some g)) (hB:B<=g) (hs:B<=w.heap.size):RdI w' B A zs :=
 h.keep fun p o hp=>Ch (hg.block p (by omega) (fun e=>by injection e with e;omega))
theorem RdI.take {w:World} {B:Nat} {A:Option Addr} {zs:List Int} (h:RdI w B A zs) (k:Nat):RdI w B A (zs.take k):=fun hn=>by
 have hl:(zs.take k).length<=zs.length:=by rw[Bc];omega
 obtain⟨g,o,e,hg,hc⟩:=h (by omega);refine⟨g,o,e,hg,fun j hj=>?_⟩;rw[hc j (by omega),L.gd_lt hj,L.gd_lt (by omega:j<zs.length),CW]
theorem RdI.cell {o:Nat} (h:RdI w B (some ⟨g,o,none⟩) zs) (j:Nat) (hj:j<zs.length):w.cell? ⟨g,o+j,none⟩=some (.int .i64 (zs.getD j 0)):=by
 obtain⟨g',o',e,_,hc⟩:=h (by omega);injection e with e;injection e with e1 e2;subst e1 e2;exact hc j hj
def UBI (w:World) (g:Nat) (ls:List Int):Prop:=w.heap[g]?=some (.cells (ls.map (Value.int .i64)).toArray 3 (0,0))
theorem UBI.lt (h:UBI w g ls):g<w.heap.size:=by
 rcases Bz g w.heap.size with aa|hge
 ·exact aa
 ·unfold UBI at h;rw[DU hge]at h;cases h
theorem UBI.cell (h:UBI w g ls) (i:Nat) (hi:i<ls.length):w.cell? ⟨g,i,none⟩=some (.int .i64 (ls.getD i 0)):=by
 rw[Aw w g i _ _ _ h];simp[hi,List.getD]
theorem UBI.frozen (h:UBI w g ls) (i:Nat):w.frozen? ⟨g,i,none⟩=false:=AD w g i _ _ h
theorem UBI.new (w:World) (ls:List Int):UBI (w.alloc (.cells (ls.map (Value.int .i64)).toArray 3)) w.heap.size ls:=Az w _
theorem UBI.drewN (h:UBI w g ls) (n:Nat):UBI (w.drewN n) g ls:=h
theorem UBI.drew (h:UBI w g ls):UBI w.drew g ls:=h
theorem UBI.alloc (h:UBI w g ls) (o:Obj):UBI (w.alloc o) g ls:=(BI w o g h.lt).trans h
theorem UBI.set_ (h:UBI w g ls) (i:Nat) (z:Int):UBI (w.setCell ⟨g,i,none⟩ (.int .i64 z)) g (ls.set i z):=by
 unfold UBI at h ⊢;rw[AP w g i _ _ _ h]
 congr 2
 apply Ef;simp[Cs]
theorem UBI.far (h:UBI w g ls) (hp:g≠p.block) (u:Value):UBI (w.setCell p u) g ls:=(AH w p u g hp).trans h
theorem UBI.below (h:UBI w g ls) (hb:Below B w w') (hg:g<B):UBI w' g ls:=(hb.block g hg).trans h
theorem UBI.grown {row:Option Nat} (h:UBI w g ls) (hb:w.grownBy w' row) (hg:some g≠row):UBI w' g ls:=(hb.block g h.lt hg).trans h
theorem UBI.mid {o:Nat} {pre xs post:List Int} (h:UBI w g (pre++xs++post)) (ho:o=pre.length) (k:Nat) (hk:k<xs.length):w.cell? ⟨g,o+k,none⟩=some (.int .i64 (xs.getD k 0)):=by
 rw[h.cell (o+k) (by simp;omega),ho,L.mid_getD pre xs post k hk]
theorem UBI.rd (h:UBI w g ls) (o n:Nat) (hn:o+n<=ls.length) (hB:g<B):RdI w B (some ⟨g,o,none⟩) ((ls.drop o).take n):=fun _=>by
 refine⟨g,o,rfl,hB,fun j hj=>?_⟩;have aa:j<n:=by rw[Bc]at hj;omega
 rw[h.cell (o+j) (by omega),L.gd_lt hj,L.gd_lt (by omega:o+j<ls.length),CW,Dl]
theorem UBI.rd0 (h:UBI w g ls) (hB:g<B):RdI w B (some ⟨g,0,none⟩) ls:=by
 have:=h.rd 0 ls.length (by omega) hB;simpa using this
theorem zkR:(Tryz.prog.info? 3).map (fun i=>(i.zero,i.size,i.bytes))=some (some (.int .i64 0),1,8):=by kernel_rfl
theorem zco (n:Nat):(List.replicate n (0:Int)).map (Value.int .i64)=List.replicate n (.int .i64 0):=by simp
def zcf (ls:List Int):Obj:=.cells (ls.map (Value.int .i64)).toArray 3
theorem zi9 (w:World) (b:List Int):RdI (w.alloc (zcf b)) (w.alloc (zcf b)).heap.size (some ⟨w.heap.size,0,none⟩) b/\Below w.heap.size w (w.alloc (zcf b)) :=
 ⟨(UBI.new w b).rd0 (by simp),(Aq _ _).alloc (Ad _) _⟩
def aS (w:World) (base:Nat) (v:Value) (xs:List Int):Prop:=w.ownsRow base 3 1 v xs.length (xs.map (Value.int .i64))
theorem aS.nil (w:World) (base:Nat):aS w base (.slice none 0 0) []:=CR w base _ _
theorem aS.alloc {xs:List Int} (h:aS w base v xs) (o:Obj):aS (w.alloc o) base v xs:=Db h o
theorem aS.drewN {xs:List Int} (h:aS w base v xs) (n:Nat):aS (w.drewN n) base v xs:=h
theorem aS.below {xs:List Int} (h:aS w base v xs) (hb:Below B w w') (hB:w.heap.size<=B):aS w' base v xs:=by
 refine⟨h.1,?_⟩;rcases h.2 with h0|⟨g,cap,cur,e,aa,hg,hr⟩
 ·exact .inl h0
 ·exact .inr ⟨g,cap,cur,e,aa,(hb.block g (Ao (Ac.1 hg).1 hB)).trans hg,hr⟩
theorem aS.form {xs:List Int} (h:aS w base v xs):∃A c,v=.slice A xs.length c/\xs.length<=c/\c<=maxLen/\RdI w w.heap.size A xs:=by
 rcases h.2 with⟨rfl,h0⟩|⟨g,cap,cur,rfl,hb,hg,hn,hm,hs,ht⟩
 ·exact⟨none,0,by rw[h0],by omega,by unfold maxLen;omega,fun hc=>absurd h0 hc⟩
 ·refine⟨some ⟨g,0,none⟩,cap,rfl,hn,hm,fun _=>⟨g,0,rfl,?_,fun j hj=>?_⟩⟩
  ·exact(Ac.1 hg).1
  ·have hc:=Cw h (g:=g) rfl j (.int .i64 (xs.getD j 0)) (by simp[hj,List.getD]);have e:((⟨g,0,none⟩:Addr).add j)=⟨g,0+j,none⟩:=by unfold Addr.add;by_cases h0:j=0 <;> simp[h0]
   rw[e]at hc;exact hc
theorem aS.mono {xs:List Int} (h:aS w base v xs) (hb:base'<=base):aS w base' v xs:=by
 refine⟨h.1,?_⟩;rcases h.2 with h0|⟨g,cap,cur,e,aa,hr⟩
 ·exact .inl h0
 ·exact .inr ⟨g,cap,cur,e,by omega,hr⟩
theorem aS.addr {xs:List Int} (h:aS w base v xs) (h0:xs.length≠0):∃g c,v=.slice (some ⟨g,0,none⟩) xs.length c/\xs.length<=c/\c<=maxLen/\base<=g:=by
 rcases h.2 with⟨_,h1⟩|⟨g,cap,cur,rfl,hb,hg,hn,hm,hs,ht⟩
 ·exact absurd h1 h0
 ·exact⟨g,cap,rfl,hn,hm,hb⟩
theorem aS.cellAt {c:Nat} {xs:List Int} (h:aS w base (.slice (some ⟨g,0,none⟩) n c) xs) (hn:n=xs.length) (j:Nat) (hj:j<xs.length):w.cell? ⟨g,j,none⟩=some (.int .i64 (xs.getD j 0)):=by
 subst hn;rw[Eg h j (by omega)];simp[hj,List.getD]
theorem aS.stored {c:Nat} {xs:List Int} (h:aS w base (.slice (some ⟨g,0,none⟩) n c) xs) (hn:n=xs.length) (j:Nat) (z:Int):aS (w.setCell ⟨g,j,none⟩ (.int .i64 z)) base (.slice (some ⟨g,0,none⟩) n c) (xs.set j z):=by
 subst hn
 have:=(Dk h j (.int .i64 z)).1
 unfold aS;rw[Dp,Cs];exact this
theorem zd7 (h:w.ownsRow base 3 1 (.slice (some ⟨g,0,none⟩) n n) n (ls.map (Value.int .i64))):UBI w g ls:=by
 rcases h.2 with⟨he,_⟩|⟨g',cap,cur,he,hb,hg,hn,hm,hs,ht⟩
 ·cases he
 ·injection he with e1 e2 e3;injection e1 with e1;injection e1 with e1;subst e1 e3;unfold UBI;rw[hg,<-ht,Cb (by simp[hs])]
theorem zem {rest:List Oper} {o:Oper} {a:Act} {Q:Exit->Act->World->Prop} (hg:o.guard=none) (l c:Operand) (t:TypeId) (ac:o.op=Op.makeSlice t l c) (ht:Tryz.prog.underlying t=some (.slice 3)) (n:Nat) (L C:Int) (hl:a.eval l=.int .i64 L) (hc:a.eval c=.int .i64 C) (hL:L=(n:Int)) (hC:C=(n:Int)) (hn:n<=35184372088832) (hK:∀w',UBI w' w.heap.size (List.replicate n 0)->Below w.heap.size w w'->w.heap.size<w'.heap.size->wpList Tryz.prog ops Q rest (a.put o.dst (.slice (some ⟨w.heap.size,0,none⟩) n n)) w') :
  wpList Tryz.prog ops Q (o::rest) a w:=by
 obtain⟨i,hi,ad,ae,af⟩:=CD zkR;refine wpList_make_full w hg l c t ac w.heap.size 3 i (.int .i64 0) 1 ht hi ad ae .i64 .i64 L C n hl hc hL hC (by rw[af];omega) (by unfold maxLen;omega) (Ad _) fun w' aa b=>?_
 have ab:UBI w' w.heap.size (List.replicate n 0):=by
  refine zd7 (base:=w.heap.size) (n:=n) ?_;rw[zco]
  have e:(madeCells (Value.int IntKind.i64 0).cells (n*1)).toList=List.replicate n (Value.int .i64 0):=by
   rw[Dd];exact Eh _ _
  rw[e]at aa;exact aa
 exact hK w' ab ⟨b.os,b.tape,b.output,b.size,fun k hk=>b.block k hk (by simp)⟩ ab.lt
theorem zk2 {rest:List Oper} {o:Oper} {a:Act} {Q:Exit->Act->World->Prop} (af:o.guard=none) (d s:Operand) (dT sT:TypeId) (ho:o.op=.call {callee:=.builtin .copy,args:=#[d,s],argTypes:=#[dT,sT]}) (ht:Tryz.prog.underlying dT=some (.slice 3)) (g n cd m cs B:Nat) (A:Option Addr) (ls zs:List Int) (hd:a.eval d=.slice (some ⟨g,0,none⟩) n cd) (hs:a.eval s=.slice A m cs) (hn:n=ls.length) (hm:m=zs.length) (hu:UBI w g ls) (hr:RdI w B A zs) (ad:zs.length<=ls.length) (hK:∀w',UBI w' g (zs++ls.drop zs.length)->w.grownBy w' (some g)->wpList Tryz.prog ops Q rest (a.put o.dst (goInt zs.length)) w') :
  wpList Tryz.prog ops Q (o::rest) a w:=by
 obtain⟨i,hi,ai,ag,aj⟩:=CD zkR;have ae:(Tryz.prog.info? 3).map (·.size)=some 1:=by rw[hi];simp[ag]
 subst hn hm
 have aa:∃w',(Builtin.copy_ #[dT,sT] o.type #[.slice (some ⟨g,0,none⟩) ls.length cd,.slice A zs.length cs]).run Tryz.prog w=.ok (goInt zs.length) w'/\UBI w' g (zs++ls.drop zs.length)/\w.grownBy w' (some g):=by
  by_cases h0:zs.length=0
  ·refine⟨w,?_,?_,AI _ _⟩
   ·rw[run_copy_none (P:=Tryz.prog) w dT sT o.type 3 _ A ls.length cd zs.length cs ht ae (by rw[h0];exact Nat.zero_min _),h0];rfl
   ·obtain rfl:=Bv h0
    simpa using hu
  ·obtain⟨g',o',rfl,_,hc⟩:=hr h0
   have ab:=run_copy_row (P:=Tryz.prog) w dT sT o.type 3 g 0 ls.length cd ⟨g',o',none⟩ zs.length cs _ _ (zs.map (Value.int .i64)) ht ae hu (by rw[Bb];exact(DB ad).symm)
    (fun j v hj=>by
     have ac:j<zs.length:=by have:=(Ba.1 hj).1;simpa using this
     have e:((⟨g',o',none⟩:Addr).add j)=⟨g',o'+j,none⟩:=by unfold Addr.add;by_cases h0:j=0 <;> simp[h0]
     rw[e,hc j ac];rw[BC,Ar ac]at hj;rw[L.gd_lt ac];simpa using hj)
    (by simpa using ad) (by intro v hv;obtain⟨z,_,rfl⟩:=Bi.1 hv;rfl)
   rw[Bb]at ab;refine⟨_,ab,?_,zbC w g _⟩;unfold UBI;rw[setRow_heap w g _ _ _ _ hu];simp
 obtain⟨w',aa,h1,h2⟩:=aa;refine wpList_plain af fun K ah=>?_;unfold Oper.wp;simp[execOp,ho,resolve,invoke,builtin,hd,hs,aa,Result.andThen];exact ah _ _ (hK w' h1 h2)
theorem zbA {rest:List Oper} {o:Oper} {a:Act} {Q:Exit->Act->World->Prop} (ac:o.guard=none) (s x:Operand) (t:TypeId) (ho:o.op=.call {callee:=.builtin .append,args:=#[s,x],argTypes:=#[t,t]}) (ht:Tryz.prog.underlying t=some (.slice 3)) (base:Nat) (v:Value) (xs:List Int) (hs:a.eval s=v) (ab:aS w base v xs) (g c:Nat) (z:Int) (hx:a.eval x=.slice (some ⟨g,0,none⟩) 1 c) (hz:w.cell? ⟨g,0,none⟩=some (.int .i64 z)) (ad:xs.length<=1000000000000) (aa:base<=w.heap.size) (hK:∀v' w',aS w' base v' (xs++[z])->w.grownBy w' v.ownBlock->wpList Tryz.prog ops Q rest (a.put o.dst v') w') :
  wpList Tryz.prog ops Q (o::rest) a w:=by
 obtain⟨i,hi,ae,af,ag⟩:=CD zkR;refine Dm w ac s x t ho base 3 i (.int .i64 0) 1 8 ht hi ae af ag rfl (by decide) v xs.length (xs.map (Value.int .i64)) hs ab ⟨g,0,none⟩ 1 c [.int .i64 z] hx rfl ?_ ?_ (by unfold maxLen;omega) (by omega) aa fun v' w' h1 h2 _=>hK v' w' ?_ h2
 ·intro j u hj
  match j,hj with
  | 0,hj=>simp at hj;subst hj;simpa[Addr.add] using hz
  | j+1,hj=>simp at hj
 ·intro u hu;simp at hu;subst hu;rfl
 ·unfold aS;rw[AU,AW];exact h1
theorem zbF {a:World} {xs:List Int} (h:Below B a w) (ho:aS w B v xs) (hg:w.grownBy w' v.ownBlock) (hs:B<=w.heap.size):Below B a w' :=
 h.grown hg hs (fun k e=>(Bs ho k e).1)
def RdB (w:World) (B:Nat) (A:Option Addr) (zs:List Int):Prop :=
 zs.length≠0->∃g o,A=some ⟨g,o,none⟩/\g<B/\∀j,j<zs.length->w.cell? ⟨g,o+j,none⟩=some (.int .u8 (zs.getD j 0))
theorem RdB.nil (w:World) (B:Nat) (A:Option Addr):RdB w B A []:=fun h=>absurd rfl h
theorem RdB.keep (h:RdB w B A zs) (hk:∀g o,g<B->w'.cell? ⟨g,o,none⟩=w.cell? ⟨g,o,none⟩):RdB w' B A zs:=fun hn=>by
 obtain⟨g,o,e,hg,hc⟩:=h hn;exact⟨g,o,e,hg,fun j hj=>(hk _ _ hg).trans (hc j hj)⟩
theorem RdB.more (h:RdB w B A zs) (hB:B<=B'):RdB w B' A zs:=fun hn=>by
 obtain⟨g,o,e,hg,hc⟩:=h hn;exact⟨g,o,e,by omega,hc⟩
theorem RdB.below (h:RdB w B A zs) (hb:Below B' w w') (hB:B<=B'):RdB w' B A zs :=
 h.keep fun g o hg=>hb.cell (p:=⟨g,o,none⟩) (Ao hg hB)
theorem RdB.up (h:RdB w w.heap.size A zs) (hb:Below w.heap.size w w'):RdB w' w'.heap.size A zs:=(h.below hb (Ad _)).more hb.size
theorem RdB.drewN (h:RdB w B A zs) (n:Nat):RdB (w.drewN n) B A zs:=h
theorem RdB.drew (h:RdB w B A zs):RdB w.drew B A zs:=h
theorem RdB.alloc (h:RdB w B A zs) (hB:B<=w.heap.size) (o:Obj):RdB (w.alloc o) B A zs :=
 h.keep fun g i hg=>Ee w o ⟨g,i,none⟩ (Ao hg hB)
theorem RdB.grown (h:RdB w B A zs) (hg:w.grownBy w' (some g)) (hB:B<=g) (hs:B<=w.heap.size):RdB w' B A zs :=
 h.keep fun p o hp=>Ch (hg.block p (by omega) (fun e=>by injection e with e;omega))
theorem RdB.take {w:World} {B:Nat} {A:Option Addr} {zs:List Int} (h:RdB w B A zs) (k:Nat):RdB w B A (zs.take k):=fun hn=>by
 have hl:(zs.take k).length<=zs.length:=by rw[Bc];omega
 obtain⟨g,o,e,hg,hc⟩:=h (by omega);refine⟨g,o,e,hg,fun j hj=>?_⟩;rw[hc j (by omega),L.gd_lt hj,L.gd_lt (by omega:j<zs.length),CW]
theorem RdB.cell {o:Nat} (h:RdB w B (some ⟨g,o,none⟩) zs) (j:Nat) (hj:j<zs.length):w.cell? ⟨g,o+j,none⟩=some (.int .u8 (zs.getD j 0)):=by
 obtain⟨g',o',e,_,hc⟩:=h (by omega);injection e with e;injection e with e1 e2;subst e1 e2;exact hc j hj
def UBB (w:World) (g:Nat) (ls:List Int):Prop:=w.heap[g]?=some (.cells (ls.map (Value.int .u8)).toArray 5 (0,0))
theorem UBB.lt (h:UBB w g ls):g<w.heap.size:=by
 rcases Bz g w.heap.size with aa|hge
 ·exact aa
 ·unfold UBB at h;rw[DU hge]at h;cases h
theorem UBB.cell (h:UBB w g ls) (i:Nat) (hi:i<ls.length):w.cell? ⟨g,i,none⟩=some (.int .u8 (ls.getD i 0)):=by
 rw[Aw w g i _ _ _ h];simp[hi,List.getD]
theorem UBB.frozen (h:UBB w g ls) (i:Nat):w.frozen? ⟨g,i,none⟩=false:=AD w g i _ _ h
theorem UBB.new (w:World) (ls:List Int):UBB (w.alloc (.cells (ls.map (Value.int .u8)).toArray 5)) w.heap.size ls:=Az w _
theorem UBB.drewN (h:UBB w g ls) (n:Nat):UBB (w.drewN n) g ls:=h
theorem UBB.drew (h:UBB w g ls):UBB w.drew g ls:=h
theorem UBB.alloc (h:UBB w g ls) (o:Obj):UBB (w.alloc o) g ls:=(BI w o g h.lt).trans h
theorem UBB.set_ (h:UBB w g ls) (i:Nat) (z:Int):UBB (w.setCell ⟨g,i,none⟩ (.int .u8 z)) g (ls.set i z):=by
 unfold UBB at h ⊢;rw[AP w g i _ _ _ h]
 congr 2
 apply Ef;simp[Cs]
theorem UBB.far (h:UBB w g ls) (hp:g≠p.block) (u:Value):UBB (w.setCell p u) g ls:=(AH w p u g hp).trans h
theorem UBB.below (h:UBB w g ls) (hb:Below B w w') (hg:g<B):UBB w' g ls:=(hb.block g hg).trans h
theorem UBB.grown {row:Option Nat} (h:UBB w g ls) (hb:w.grownBy w' row) (hg:some g≠row):UBB w' g ls:=(hb.block g h.lt hg).trans h
theorem UBB.mid {o:Nat} {pre xs post:List Int} (h:UBB w g (pre++xs++post)) (ho:o=pre.length) (k:Nat) (hk:k<xs.length):w.cell? ⟨g,o+k,none⟩=some (.int .u8 (xs.getD k 0)):=by
 rw[h.cell (o+k) (by simp;omega),ho,L.mid_getD pre xs post k hk]
theorem UBB.rd (h:UBB w g ls) (o n:Nat) (hn:o+n<=ls.length) (hB:g<B):RdB w B (some ⟨g,o,none⟩) ((ls.drop o).take n):=fun _=>by
 refine⟨g,o,rfl,hB,fun j hj=>?_⟩;have aa:j<n:=by rw[Bc]at hj;omega
 rw[h.cell (o+j) (by omega),L.gd_lt hj,L.gd_lt (by omega:o+j<ls.length),CW,Dl]
theorem UBB.rd0 (h:UBB w g ls) (hB:g<B):RdB w B (some ⟨g,0,none⟩) ls:=by
 have:=h.rd 0 ls.length (by omega) hB;simpa using this
theorem znK:(Tryz.prog.info? 5).map (fun i=>(i.zero,i.size,i.bytes))=some (some (.int .u8 0),1,1):=by kernel_rfl
def zdT (ls:List Int):Obj:=.cells (ls.map (Value.int .u8)).toArray 5
theorem znE (w:World) (b:List Int):RdB (w.alloc (zdT b)) (w.alloc (zdT b)).heap.size (some ⟨w.heap.size,0,none⟩) b/\Below w.heap.size w (w.alloc (zdT b)) :=
 ⟨(UBB.new w b).rd0 (by simp),(Aq _ _).alloc (Ad _) _⟩
def bP (w:World) (base:Nat) (v:Value) (xs:List Int):Prop:=w.ownsRow base 5 1 v xs.length (xs.map (Value.int .u8))
theorem bP.nil (w:World) (base:Nat):bP w base (.slice none 0 0) []:=CR w base _ _
theorem bP.alloc {xs:List Int} (h:bP w base v xs) (o:Obj):bP (w.alloc o) base v xs:=Db h o
theorem bP.drewN {xs:List Int} (h:bP w base v xs) (n:Nat):bP (w.drewN n) base v xs:=h
theorem bP.below {xs:List Int} (h:bP w base v xs) (hb:Below B w w') (hB:w.heap.size<=B):bP w' base v xs:=by
 refine⟨h.1,?_⟩;rcases h.2 with h0|⟨g,cap,cur,e,aa,hg,hr⟩
 ·exact .inl h0
 ·exact .inr ⟨g,cap,cur,e,aa,(hb.block g (Ao (Ac.1 hg).1 hB)).trans hg,hr⟩
theorem bP.form {xs:List Int} (h:bP w base v xs):∃A c,v=.slice A xs.length c/\xs.length<=c/\c<=maxLen/\RdB w w.heap.size A xs:=by
 rcases h.2 with⟨rfl,h0⟩|⟨g,cap,cur,rfl,hb,hg,hn,hm,hs,ht⟩
 ·exact⟨none,0,by rw[h0],by omega,by unfold maxLen;omega,fun hc=>absurd h0 hc⟩
 ·refine⟨some ⟨g,0,none⟩,cap,rfl,hn,hm,fun _=>⟨g,0,rfl,?_,fun j hj=>?_⟩⟩
  ·exact(Ac.1 hg).1
  ·have hc:=Cw h (g:=g) rfl j (.int .u8 (xs.getD j 0)) (by simp[hj,List.getD]);have e:((⟨g,0,none⟩:Addr).add j)=⟨g,0+j,none⟩:=by unfold Addr.add;by_cases h0:j=0 <;> simp[h0]
   rw[e]at hc;exact hc
theorem bP.mono {xs:List Int} (h:bP w base v xs) (hb:base'<=base):bP w base' v xs:=by
 refine⟨h.1,?_⟩;rcases h.2 with h0|⟨g,cap,cur,e,aa,hr⟩
 ·exact .inl h0
 ·exact .inr ⟨g,cap,cur,e,by omega,hr⟩
theorem bP.addr {xs:List Int} (h:bP w base v xs) (h0:xs.length≠0):∃g c,v=.slice (some ⟨g,0,none⟩) xs.length c/\xs.length<=c/\c<=maxLen/\base<=g:=by
 rcases h.2 with⟨_,h1⟩|⟨g,cap,cur,rfl,hb,hg,hn,hm,hs,ht⟩
 ·exact absurd h1 h0
 ·exact⟨g,cap,rfl,hn,hm,hb⟩
theorem bP.cellAt {c:Nat} {xs:List Int} (h:bP w base (.slice (some ⟨g,0,none⟩) n c) xs) (hn:n=xs.length) (j:Nat) (hj:j<xs.length):w.cell? ⟨g,j,none⟩=some (.int .u8 (xs.getD j 0)):=by
 subst hn;rw[Eg h j (by omega)];simp[hj,List.getD]
theorem bP.stored {c:Nat} {xs:List Int} (h:bP w base (.slice (some ⟨g,0,none⟩) n c) xs) (hn:n=xs.length) (j:Nat) (z:Int):bP (w.setCell ⟨g,j,none⟩ (.int .u8 z)) base (.slice (some ⟨g,0,none⟩) n c) (xs.set j z):=by
 subst hn
 have:=(Dk h j (.int .u8 z)).1
 unfold bP;rw[Dp,Cs];exact this
theorem zju {rest:List Oper} {o:Oper} {a:Act} {Q:Exit->Act->World->Prop} (af:o.guard=none) (s x:Operand) (t:TypeId) (ho:o.op=.call {callee:=.builtin .append,args:=#[s,x],argTypes:=#[t,t]}) (ht:Tryz.prog.underlying t=some (.slice 5)) (base:Nat) (v:Value) (xs:List Int) (hs:a.eval s=v) (aa:bP w base v xs) (B m c:Nat) (A:Option Addr) (zs:List Int) (hx:a.eval x=.slice A m c) (hm:m=zs.length) (hr:RdB w B A zs) (ag:xs.length+zs.length<=1000000000000) (ab:base<=w.heap.size) (hK:∀v' w',bP w' base v' (xs++zs)->w.grownBy w' v.ownBlock->wpList Tryz.prog ops Q rest (a.put o.dst v') w') :
  wpList Tryz.prog ops Q (o::rest) a w:=by
 obtain⟨i,hi,ah,ai,aj⟩:=CD znK;subst hm;rcases A with _|ad
 ·have hz:zs=[]:=by
   rcases Dh zs.length with h0|h0
   ·exact Bv h0
   ·obtain⟨g,o',h,_⟩:=hr (by omega);cases h
  subst hz;have ac:=zar (P:=Tryz.prog) w base t o.type 5 i 1 ht hi v xs.length _ aa c;refine wpList_plain af fun K ak=>?_;unfold Oper.wp;simp[execOp,ho,resolve,invoke,builtin,hs,hx,ac,Result.andThen];exact ak _ _ (hK v w (by simpa using aa) (AI _ _))
 ·refine Dm w af s x t ho base 5 i (.int .u8 0) 1 1 ht hi ah ai aj rfl (by decide) v xs.length (xs.map (Value.int .u8)) hs aa ad zs.length c (zs.map (Value.int .u8)) hx (by simp) ?_ ?_ (by unfold maxLen;omega) (by omega) ab fun v' w' h1 h2 _=>hK v' w' ?_ h2
  ·intro j u hj;have ae:j<zs.length:=by have:=(Ba.1 hj).1;simpa using this
   obtain⟨g,o',h,_,hc⟩:=hr (by omega)
   replace h:=DE h
   subst h;have e:((⟨g,o',none⟩:Addr).add j)=⟨g,o'+j,none⟩:=by unfold Addr.add;by_cases h0:j=0 <;> simp[h0]
   rw[e,hc j ae];rw[BC,Ar ae]at hj;rw[L.gd_lt ae];simpa using hj
  ·intro u hu;obtain⟨z,_,rfl⟩:=Bi.1 hu;rfl
  ·unfold bP;rw[AU,AW];exact h1
end Go.Proofs.YtjjbaehamplnaaaGreat
namespace Go.Proofs.YtjjbaehamplnaaaGreat
open Go.RowKit
namespace K
def Bytes (l:List Int):Prop:=∀z∈l,0<=z/\z<256
theorem Bytes.nil:Bytes []:=by simp[Bytes]
theorem Bytes.tl (h:Bytes (z::r)):Bytes r:=fun x hx=>h x (Bh _ hx)
theorem Bytes.hd (h:Bytes (z::r)):0<=z/\z<256:=h z (Bf ..)
theorem Bytes.app {m:List Int} (h:Bytes l) (k:Bytes m):Bytes (l++m):=fun z hz=>by
 rcases Bj.1 hz with h1|h1
 ·exact h z h1
 ·exact k z h1
theorem Bytes.take (h:Bytes l) (k:Nat):Bytes (l.take k):=fun z hz=>h z (List.mem_of_mem_take hz)
theorem Bytes.drop (h:Bytes l) (k:Nat):Bytes (l.drop k):=fun z hz=>h z (CS hz)
theorem Bytes.getD (h:Bytes l) (k:Nat):0<=l.getD k 0/\l.getD k 0<256:=by
 by_cases hk:k<l.length
 ·rw[L.gd_lt hk];exact h _ (Ay hk)
 ·rw[L.gd_ge (by omega)];omega
theorem Bytes.set (h:Bytes l) (k:Nat) (h1:0<=z) (h2:z<256):Bytes (l.set k z):=fun x hx=>by
 rcases Df hx with h3|h3
 ·exact h x h3
 ·subst h3;exact⟨h1,h2⟩
end K
theorem RdB.drop {w:World} {B:Nat} {g o:Nat} {zs:List Int} (h:RdB w B (some ⟨g,o,none⟩) zs) (k:Nat):RdB w B (some ⟨g,o+k,none⟩) (zs.drop k):=fun hn=>by
 have hl:(zs.drop k).length=zs.length-k:=by rw[Bl]
 obtain⟨g',o',e,hg,hc⟩:=h (by omega);injection e with e;injection e with e1 e2;subst e1 e2;refine⟨g,o+k,rfl,hg,fun j hj=>?_⟩;rw[show o+k+j=o+(k+j) by omega,hc (k+j) (by omega),L.gd_lt hj,L.gd_lt (by omega:k+j<zs.length),Dl]
def K.bytes (l:List Int):List UInt8:=l.map fun z=>UInt8.ofNat z.toNat
def K.str (l:List Int):ByteArray:=⟨(K.bytes l).toArray⟩
theorem K.bytes_at (h:K.Bytes l) (j:Nat) (hj:j<(K.bytes l).length):(((K.bytes l)[j]).toNat:Int)=l.getD j 0:=by
 have aa:j<l.length:=by simpa[K.bytes] using hj
 have hb:=h.getD j;rw[L.gd_lt aa]at hb ⊢;simp only[K.bytes,C3];generalize l[j]=z at *
 have:(UInt8.ofNat z.toNat).toNat=z.toNat:=by simp[UInt8.toNat_ofNat'];omega
 rw[this];omega
theorem K.bytes_inj {m:List Int} (hl:K.Bytes l) (hm:K.Bytes m) (h:K.bytes l=K.bytes m):l=m:=by
 have aa:l.length=m.length:=by have:=congrArg List.length h;simpa[K.bytes] using this
 refine L.getD_ext aa fun i hi=>?_;have h1:=K.bytes_at hl i (by simpa[K.bytes] using hi);have h2:=K.bytes_at hm i (by simpa[K.bytes] using(aa▸hi));rw[<-h1,<-h2];simp only[h]
theorem K.str_eq {m:List Int} (hl:K.Bytes l) (hm:K.Bytes m):(K.str l=K.str m)↔l=m:=by
 constructor
 ·intro h;refine K.bytes_inj hl hm ?_
  have:=congrArg (fun s:ByteArray=>s.data.toList) h
  simpa[K.str] using this
 ·rintro rfl;rfl
theorem zbl (h:RdB w B A l) (hl:K.Bytes l) (c:Nat) :
  (convert 72 9 (.slice A l.length c)).run Tryz.prog w=.ok (.string (K.str l)) w:=by
 have aa:(K.bytes l).length=l.length:=by simp[K.bytes]
 rcases Dh l.length with h0|h0
 ·have hn:=Bv h0;subst hn;rw[run_convert_bytes_string w _ _ 5 A _ c Tryz.underlying72 Tryz.underlying5 Tryz.underlying9];rcases A with _|ad
  ·rfl
  ·rw[run_bytesToString w ad [].length c [] (by rfl)];rfl
 ·obtain⟨g,o,rfl,_,hc⟩:=h (by omega);rw[<-aa];refine run_convert_bytes_back w _ _ 5 ⟨g,o,none⟩ c (K.bytes l) Tryz.underlying72 Tryz.underlying5 Tryz.underlying9 fun j hj=>?_;have e:((⟨g,o,none⟩:Addr).add j)=⟨g,o+j,none⟩:=by unfold Addr.add;by_cases h0:j=0 <;> simp[h0]
  rw[e,hc j (by omega),K.bytes_at hl j hj]
theorem zan (l:List Int) (h:(l.all fun z=>decide (0<=z)&&decide (z<256))=true):K.Bytes l:=fun z hz=>by
 have:=BP.1 h z hz
 simpa using this
def zbq (b:List Int):Obj:=.cells (b.map (Value.int .u8)).toArray 5 (b.length,b.length+1)
theorem litM (w:World) (b:List Int):RdB (w.alloc (zbq b)) (w.alloc (zbq b)).heap.size (some ⟨w.heap.size,0,none⟩) b/\Below w.heap.size w (w.alloc (zbq b)):=by
 refine⟨fun _=>⟨w.heap.size,0,rfl,by simp,fun j hj=>?_⟩,(Aq _ _).alloc (Ad _) _⟩
 have:=World.cell?_alloc_mark w (b.map (Value.int .u8)).toArray 5 (b.length,b.length+1) (0+j)
 unfold zbq;rw[this];simp[hj,List.getD]
theorem ze7 (w:World) (b:List Int) (n c:Nat):(convert 72 72 (.slice (some ⟨w.heap.size,0,none⟩) n c)).run Tryz.prog (w.alloc (.cells (b.map (Value.int .u8)).toArray 5))=.ok (.slice (some ⟨w.heap.size,0,none⟩) n c) (w.alloc (zbq b)):=by
 have hsh:(w.alloc (.cells (b.map (Value.int .u8)).toArray 5)).shape? w.heap.size=some (5,b.length):=by
  unfold World.shape?;rw[Az];simp
 have aa:(w.alloc (.cells (b.map (Value.int .u8)).toArray 5)).freeze ⟨w.heap.size,b.length,none⟩ 1=w.alloc (zbq b):=by
  have hm:∀(a:Array Obj) (x:Obj) (f:Obj->Obj),(a.push x).modify a.size f=a.push (f x):=by
   intro a x f;apply Array.ext
   ·simp
   ·intro i h1 h2;simp only[Array.getElem_modify,Array.getElem_push];by_cases h:a.size=i
    ·subst h;simp
    ·have hi:i<a.size:=by simp at h1;omega
     simp[h,hi]
  unfold World.freeze;rw[AB (by decide)]
  show({w with heap:=(w.heap.push (.cells (b.map (Value.int .u8)).toArray 5)).modify w.heap.size _}:World)=_
  rw[hm];rfl
 simp[convert,CO Tryz.underlying72,CO Tryz.underlying5,markStringish,hsh];exact aa
def K.Tx (l:List Int):Prop:=K.Bytes l/\l.length<=9223372036854775807
namespace Gm
structure Tm where
 nm:List Int
 lv:Int
 wy:Int
structure Rl where
 l:Int
 r:List Int
 p:Int
structure Gr where
 ts:List Tm
 ns:List (List Int)
 rs:List Rl
 st:Int
def In (z:Int):Prop:=-9223372036854775808<=z/\z<=9223372036854775807
structure Fit (G:Gr):Prop where
 t:∀x∈G.ts,K.Tx x.nm/\In x.lv/\In x.wy
 n:∀x∈G.ns,K.Tx x
 r:∀x∈G.rs,In x.l/\In x.p/\∀z∈x.r,In z
 s:In G.st
end Gm
def zeE (w:World) (B:Nat) (A:Option Addr) (ts:List Gm.Tm):Prop :=
 ts.length≠0->∃g o,A=some ⟨g,o,none⟩/\g<B/\∀i (h:i<ts.length),w.cell? ⟨g,o+i*3,none⟩=some (.string (K.str ts[i].nm))/\w.cell? ⟨g,o+i*3+1,none⟩=some (.int .i64 ts[i].lv)/\w.cell? ⟨g,o+i*3+2,none⟩=some (.int .i64 ts[i].wy)
def RdN (w:World) (B:Nat) (A:Option Addr) (ns:List (List Int)):Prop :=
 ns.length≠0->∃g o,A=some ⟨g,o,none⟩/\g<B/\∀i (h:i<ns.length),w.cell? ⟨g,o+i,none⟩=some (.string (K.str ns[i]))
def zd3 (w:World) (B:Nat) (A:Option Addr) (rs:List Gm.Rl):Prop :=
 rs.length≠0->∃g o,A=some ⟨g,o,none⟩/\g<B/\∀i (h:i<rs.length),w.cell? ⟨g,o+i*3,none⟩=some (.int .i64 rs[i].l)/\(∃A' c',w.cell? ⟨g,o+i*3+1,none⟩=some (.slice A' rs[i].r.length c')/\rs[i].r.length<=c'/\c'<=9223372036854775807/\RdI w B A' rs[i].r)/\w.cell? ⟨g,o+i*3+2,none⟩=some (.int .i64 rs[i].p)
def aQ (w:World) (B:Nat) (v:Value) (G:Gm.Gr):Prop :=
 ∃AT cT AN cN AR cR,v=.agg #[.slice AT G.ts.length cT,.slice AN G.ns.length cN,.slice AR G.rs.length cR,.int .i64 G.st]/\(G.ts.length<=cT/\cT<=9223372036854775807)/\(G.ns.length<=cN/\cN<=9223372036854775807)/\(G.rs.length<=cR/\cR<=9223372036854775807)/\zeE w B AT G.ts/\RdN w B AN G.ns/\zd3 w B AR G.rs
theorem zeE.keep {ts:List Gm.Tm} (h:zeE w B A ts) (hk:∀g o,g<B->w'.cell? ⟨g,o,none⟩=w.cell? ⟨g,o,none⟩):zeE w' B A ts:=fun hn=>by
 obtain⟨g,o,e,hg,hc⟩:=h hn;exact⟨g,o,e,hg,fun i hi=>⟨(hk _ _ hg).trans (hc i hi).1,(hk _ _ hg).trans (hc i hi).2.1,(hk _ _ hg).trans (hc i hi).2.2⟩⟩
theorem RdN.keep (h:RdN w B A ns) (hk:∀g o,g<B->w'.cell? ⟨g,o,none⟩=w.cell? ⟨g,o,none⟩):RdN w' B A ns:=fun hn=>by
 obtain⟨g,o,e,hg,hc⟩:=h hn;exact⟨g,o,e,hg,fun i hi=>(hk _ _ hg).trans (hc i hi)⟩
theorem zd3.keep {w w':World} {B:Nat} {A:Option Addr} {rs:List Gm.Rl} (h:zd3 w B A rs) (hk:∀g o,g<B->w'.cell? ⟨g,o,none⟩=w.cell? ⟨g,o,none⟩):zd3 w' B A rs:=fun hn=>by
 obtain⟨g,o,e,hg,hc⟩:=h hn;refine⟨g,o,e,hg,fun i hi=>?_⟩;obtain⟨h1,⟨A',c',h2,h3,h4,h5⟩,h6⟩:=hc i hi;exact⟨(hk _ _ hg).trans h1,⟨A',c',(hk _ _ hg).trans h2,h3,h4,h5.keep hk⟩,(hk _ _ hg).trans h6⟩
theorem aQ.keep {w w':World} {B:Nat} {v:Value} {G:Gm.Gr} (h:aQ w B v G) (hk:∀g o,g<B->w'.cell? ⟨g,o,none⟩=w.cell? ⟨g,o,none⟩):aQ w' B v G:=by
 obtain⟨AT,cT,AN,cN,AR,cR,e,h1,h2,h3,h4,h5,h6⟩:=h;exact⟨AT,cT,AN,cN,AR,cR,e,h1,h2,h3,h4.keep hk,h5.keep hk,h6.keep hk⟩
theorem aQ.below {G:Gm.Gr} (h:aQ w B v G) (hb:Below B' w w') (hB:B<=B'):aQ w' B v G :=
 h.keep fun g o hg=>hb.cell (p:=⟨g,o,none⟩) (Ao hg hB)
theorem zeE.more {ts:List Gm.Tm} (h:zeE w B A ts) (hB:B<=B'):zeE w B' A ts:=fun hn=>by
 obtain⟨g,o,e,hg,hc⟩:=h hn;exact⟨g,o,e,by omega,hc⟩
theorem RdN.more {ss:List (List Int)} (h:RdN w B A ss) (hB:B<=B'):RdN w B' A ss:=fun hn=>by
 obtain⟨g,o,e,hg,hc⟩:=h hn;exact⟨g,o,e,by omega,hc⟩
theorem zd3.more {w:World} {B B':Nat} {A:Option Addr} {rs:List Gm.Rl} (h:zd3 w B A rs) (hB:B<=B'):zd3 w B' A rs:=fun hn=>by
 obtain⟨g,o,e,hg,hc⟩:=h hn;refine⟨g,o,e,by omega,fun i hi=>?_⟩;obtain⟨h1,⟨A',c',h2,h3,h4,h5⟩,h6⟩:=hc i hi;exact⟨h1,⟨A',c',h2,h3,h4,h5.more hB⟩,h6⟩
theorem aQ.more {w:World} {B B':Nat} {v:Value} {G:Gm.Gr} (h:aQ w B v G) (hB:B<=B'):aQ w B' v G:=by
 obtain⟨AT,cT,AN,cN,AR,cR,e,h1,h2,h3,h4,h5,h6⟩:=h;exact⟨AT,cT,AN,cN,AR,cR,e,h1,h2,h3,h4.more hB,h5.more hB,h6.more hB⟩
theorem aQ.up {G:Gm.Gr} (h:aQ w w.heap.size v G) (hb:Below w.heap.size w w'):aQ w' w'.heap.size v G:=(h.below hb (Ad _)).more hb.size
theorem aQ.drewN {G:Gm.Gr} (h:aQ w B v G) (n:Nat):aQ (w.drewN n) B v G:=h
theorem K.txt (s:ByteArray) (hs:s.size<=maxLen):∃l,K.Tx l/\s=K.str l:=by
 refine⟨s.data.toList.map fun b=>(b.toNat:Int),⟨?_,by rw[Bb];unfold maxLen at hs;exact hs⟩,?_⟩
 ·intro z hz;obtain⟨b,_,rfl⟩:=Bi.1 hz
  have:=b.toNat_lt
  omega
 ·unfold K.str K.bytes;rw[DV]
  have:((fun z:Int=>UInt8.ofNat z.toNat)∘fun b:UInt8=>(b.toNat:Int))=id:=by
   funext b;simp
  rw[this];simp
theorem zbx {α:Type} (n:Nat) (p:Nat->α->Prop) (h:∀i,i<n->∃a,p i a):∃l:List α,l.length=n/\∀i (hi:i<l.length),p i l[i]:=by
 induction n with
 | zero=>exact⟨[],rfl,fun i hi=>by simp at hi⟩
 | succ n ih =>
  obtain⟨l,hl,hp⟩:=ih (fun i hi=>h i (by omega));obtain⟨a,ha⟩:=h n (by omega);refine⟨l++[a],by simp[hl],fun i hi=>?_⟩;rcases Bz i l.length with h1|h1
  ·rw[Ev h1];exact hp i h1
  ·have:i=l.length:=by simp at hi;omega
   subst this;simp only[List.getElem_concat_length];rw[hl];exact ha
namespace T
def small (z:Int):Bool:=decide (97<=z)&&decide (z<=122)
def head (z:Int):Bool:=small z||(decide (65<=z)&&decide (z<=90))||z==95
def tail (z:Int):Bool:=(decide (48<=z)&&decide (z<=57))||z==46
def inName (z:Int):Bool:=head z||tail z
def run (p:Int->Bool):List Int->Nat
 | []=>0
 | z::r=>if p z then run p r+1 else 0
def nsize:List Int->Nat
 | []=>0
 | z::r=>if head z then run inName r+1 else 0
def isName (l:List Int):Bool:=decide (l.length<=20)&&(decide (l.length≠0)&&decide (nsize l=l.length))
def isSign (l:List Int):Bool:=l==[92,110]||l==[92,116]||l==[92,92]||l==[92,39]||(match l with | [z]=>decide (32<=z)&&decide (z<=126)&&(z != 39)&&(z != 92)|_=>false)
def isLit:List Int->Bool
 | [a,b,c]=>a==39&&c==39&&decide (32<=b)&&decide (b<=126)&&(b != 39)&&(b != 92)
 | [a,b,c,d]=>a==39&&d==39&&b==92&&(c==110||c==116||c==92||c==39)
 | _=>false
theorem nsize_cons (z:Int) (r:List Int):nsize (z::r)=if head z then run inName r+1 else 0:=rfl
theorem run_le (p:Int->Bool) (l:List Int):run p l<=l.length:=by
 induction l with
 | nil=>simp[run]
 | cons z r ih=>unfold run;split <;> simp <;> omega
theorem zi5 (l:List Int):nsize l<=l.length:=by
 cases l with
 | nil=>simp[nsize]
 | cons z r=>rw[nsize_cons];have:=run_le inName r;split <;> simp <;> omega
theorem run_next (p:Int->Bool) (l:List Int) (k:Nat) (h:k<l.length):run p (l.drop k)=if p (l.getD k 0) then run p (l.drop (k+1))+1 else 0:=by
 rw[L.cons_drop l k h];rfl
theorem run_end (p:Int->Bool) (l:List Int) (k:Nat) (h:l.length<=k):run p (l.drop k)=0:=by
 rw[BV h];rfl
theorem nsize_first (l:List Int) (h:0<l.length):nsize l=if head (l.getD 0 0) then run inName (l.drop 1)+1 else 0:=by
 cases l with
 | nil=>simp at h
 | cons z r=>rfl
theorem ziE (p:Int->Bool) (l:List Int):run p l=l.length ↔ ∀j,j<l.length->p (l.getD j 0)=true:=by
 induction l with
 | nil=>simp[run]
 | cons z r ih =>
  unfold run
  constructor
  ·intro h j hj;by_cases hz:p z=true
   ·rw[Ap hz]at h;simp at h;cases j with
    | zero=>simpa using hz
    | succ j=>have:=ih.1 h j (by simp at hj;omega);simpa using this
   ·rw[AB hz]at h;simp at h
  ·intro h;have h0:=h 0 (by simp)
   have:p z=true:=by simpa using h0
   rw[Ap this]
   have:=ih.2 (fun j hj=>by have:=h (j+1) (by simp;omega);simpa using this)
   simp[this]
theorem ziD (p:Int->Bool) (l:List Int) (k:Nat) (h:k<=run p l):run p (l.take k)=k:=by
 induction l generalizing k with
 | nil=>simp[run]at h;subst h;rfl
 | cons z r ih =>
  cases k with
  | zero=>rfl
  | succ k =>
   unfold run at h;by_cases hz:p z=true
   ·rw[Ap hz]at h;simp only[List.take_succ_cons];unfold run;rw[Ap hz,ih k (by omega)]
   ·rw[AB hz]at h;omega
theorem zfV (l:List Int) (k:Nat) (h:k<=nsize l):nsize (l.take k)=k:=by
 cases l with
 | nil=>simp[nsize]at h;subst h;rfl
 | cons z r =>
  cases k with
  | zero=>rfl
  | succ k =>
   rw[nsize_cons]at h;by_cases hz:head z=true
   ·rw[Ap hz]at h;simp only[List.take_succ_cons];rw[nsize_cons,Ap hz,ziD _ _ _ (by omega)]
   ·rw[AB hz]at h;omega
theorem isName_iff (l:List Int):isName l=(decide (l.length≠0)&&decide (l.length<=20)&&head (l.getD 0 0)&&decide (∀j,j<l.length->inName (l.getD j 0)=true)):=by
 cases l with
 | nil=>simp[isName]
 | cons z r =>
  rw[Bn];have hr:=ziE inName r;unfold isName;simp only[AQ,AV]
  constructor
  ·rintro⟨h1,h2,h3⟩;rw[nsize_cons]at h3;by_cases hz:head z=true
   ·rw[Ap hz]at h3;refine⟨⟨⟨by simp,h1⟩,by simpa using hz⟩,fun j hj=>?_⟩;cases j with
    | zero=>simp[inName,hz]
    | succ j =>
     have:=hr.1 (by simpa using h3) j (by simp at hj;omega)
     simpa using this
   ·rw[AB hz]at h3;simp at h3
  ·rintro⟨⟨⟨h1,h2⟩,h3⟩,h4⟩;refine⟨h2,by simp,?_⟩;rw[nsize_cons,Ap (by simpa using h3)]
   have:=hr.2 (fun j hj=>by have:=h4 (j+1) (by simp;omega);simpa using this)
   simp[this]
theorem isLit_len (h:isLit l=true):l.length=3\/l.length=4:=by
 unfold isLit at h;split at h
 ·left;rfl
 ·right;rfl
 ·cases h
theorem isLit_mid (m:List Int):isLit (39::(m++[39]))=isSign m:=by
 match m with
 | []=>rfl
 | [b]=>simp[isLit,isSign,Bool.and_assoc]
 | [b,c] =>
  by_cases h1:b=92
  ·subst h1;simp[isLit,isSign]
  ·have:(b==92)=false:=by simpa using h1
   simp[isLit,isSign,this]
 | b::c::d::r =>
  simp only[Cx]
  have:isLit (39::b::c::d::(r++[39]))=false:=by
   unfold isLit;cases r with
   | nil=>rfl
   | cons e r=>rfl
  rw[this];simp[isSign]
theorem isLit_bare (l:List Int) (h:isLit l=true):∃m,l=39::(m++[39]):=by
 match l,h with
 | [a,b,c],h =>
  simp[isLit]at h;obtain⟨⟨⟨⟨⟨rfl,rfl⟩,_⟩,_⟩,_⟩,_⟩:=h;exact⟨[b],rfl⟩
 | [a,b,c,d],h =>
  simp[isLit]at h;obtain⟨⟨⟨rfl,rfl⟩,_⟩,_⟩:=h;exact⟨[b,c],rfl⟩
theorem name_lit (l:List Int) (h:isName l=true):isLit l=false:=by
 rcases hl:isLit l with _|_
 ·rfl
 ·obtain⟨m,rfl⟩:=isLit_bare l hl;rw[isName_iff]at h
  have:head 39=false:=by decide
  simp[this]at h
def ix (l s:List Int):Int:=Lib.index (Lib.bytesOf l) (Lib.bytesOf s)
def pre (l s:List Int):Bool:=Lib.hasPrefix (Lib.bytesOf l) (Lib.bytesOf s)
abbrev P3:=Int×Nat×Int
def skip (l:List Int) (f:Nat) (s:List Int):P3:=if ix (l.drop f) s<0 then(0,0,4) else(0,f+(ix (l.drop f) s).toNat+s.length,0)
def line (l:List Int):List Int:=if 0<=ix l [10] then l.take (ix l [10]).toNat else l
def comment (l:List Int):P3:=if pre l [47,42] then skip l 2 [42,47] else if pre l [47,47] then(0,(line l).length,0) else(0,0,3)
def quoted (q:Int):List Int->Option Nat
 | []=>none
 | z::r=>if z=q then some 1 else if z=92 then(match r with | []=>none|_::r'=>(quoted q r').map (· + 2)) else(quoted q r).map (· + 1)
def ostep (z o:Int):Int:=if z=123 then o+1 else if z=125 then o-1 else o
def act:Nat->List Int->Int->Option Nat
 | 0,_,_=>none
 | f+1,l,o=>match l with
  | []=>none
  | z::r=>if z=39\/z=34 then(match quoted z r with|none=>none|some n=>(act f (r.drop n) o).map (· + (n+1)))
   else if 0<ostep z o then(act f r (ostep z o)).map (· + 1) else some 1
def action (l:List Int):P3:=match act (l.length+1) l 0 with|none=>(0,0,4)|some n=>(0,n,0)
def wkind (l:List Int):Int:=if l=[116,111,107,101,110] then 3 else if l=[108,101,102,116] then 4 else if l=[114,105,103,104,116] then 5 else if l=[110,111,110,97,115,115,111,99] then 6 else if l=[115,116,97,114,116] then 7 else if l=[112,114,101,99] then 8 else 0
def psize (l:List Int):Nat:=1+run small (l.drop 1)
def percent (l:List Int):P3:=if pre l [37,37] then(9,2,0) else if pre l [37,123] then skip l 2 [37,125] else if wkind ((l.take (psize l)).drop 1)=0 then(0,0,3) else(wkind ((l.take (psize l)).drop 1),psize l,0)
def literal (l:List Int):P3:=if isLit (l.take 3) then(2,3,0) else if isLit (l.take 4) then(2,4,0) else if isLit (l++[39])||isLit (l++[110,39]) then(0,0,4) else(0,0,3)
def name (l:List Int):P3:=if nsize l=0 then(0,0,3) else if 20<nsize l then(0,0,5) else(1,nsize l,0)
def piece (l:List Int):P3 :=
 let z:=l.getD 0 0
 if z=32\/z=9\/z=10\/z=13 then(0,1,0) else if z=47 then comment l else if z=60 then skip (line l) 1 [62] else if z=123 then action l else if z=37 then percent l
 else if z=39 then literal l else if z=58 then(10,1,0) else if z=124 then(11,1,0) else if z=59 then(12,1,0) else name l
theorem zaV (l:List Int):(Lib.bytesOf l).length=l.length:=by simp[Lib.bytesOf]
theorem ix_ge (l s:List Int):-1<=ix l s:=Lib.index_ge _ _
theorem ix_room (l s:List Int) (h:0<=ix l s):(ix l s).toNat+s.length<=l.length:=by
 have:=Lib.index_room _ _ h
 rw[zaV,zaV]at this;unfold ix at *;omega
theorem line_le (l:List Int):(line l).length<=l.length:=by
 unfold line;split
 ·rw[Bc];omega
 ·exact Ad _
theorem zb2 (l s:List Int) (h:pre l s=true):s.length<=l.length:=by
 have:=List.IsPrefix.length_le (List.isPrefixOf_iff_prefix.1 h)
 rwa [zaV,zaV]at this
theorem quoted_le (q:Int):∀(l:List Int) (n:Nat),quoted q l=some n->1<=n/\n<=l.length
 | [],n,h=>by simp[quoted]at h
 | [z],n,h=>by
  unfold quoted at h;by_cases h1:z=q
  ·rw[Ap h1]at h;simp at h;subst h;simp
  ·rw[AB h1]at h;by_cases h2:z=92
   ·rw[Ap h2]at h;simp at h
   ·rw[AB h2]at h;simp[quoted]at h
 | z::y::r,n,h=>by
  unfold quoted at h;by_cases h1:z=q
  ·rw[Ap h1]at h;simp at h;subst h;simp
  ·rw[AB h1]at h;by_cases h2:z=92
   ·rw[Ap h2]at h;simp only[CT]at h;obtain⟨m,hm,rfl⟩:=h
    have:=quoted_le q r m hm
    simp;omega
   ·rw[AB h2]at h;rw[CT]at h;obtain⟨m,hm,rfl⟩:=h
    have:=quoted_le q (y::r) m hm
    simp at this ⊢;omega
theorem zih:∀(f:Nat) (l:List Int) (o:Int) (n:Nat),act f l o=some n->1<=n/\n<=l.length
 | 0,_,_,_,h=>by simp[act]at h
 | f+1,[],o,n,h=>by simp[act]at h
 | f+1,z::r,o,n,h=>by
  unfold act at h;simp only at h;split at h
  ·split at h
   ·cases h
   ·rename_i m hq
    rw[CT]at h;obtain⟨k,hk,rfl⟩:=h;have h1:=zih f _ _ _ hk;have h2:=quoted_le z r m hq;rw[Bl]at h1
    simp;omega
  ·generalize ostep z o=o' at h;by_cases h0:0<o'
   ·rw[Ap h0,CT]at h;obtain⟨k,hk,rfl⟩:=h;have h1:=zih f _ _ _ hk
    simp;omega
   ·rw[AB h0]at h;injection h with h;subst h;simp
def Fine (l:List Int) (x:P3):Prop:=(x.2.2=0->1<=x.2.1/\x.2.1<=l.length/\(x.1=1->isName (l.take x.2.1)=true)/\(x.1=2->isLit (l.take x.2.1)=true))/\0<=x.1/\x.1<=12/\0<=x.2.2/\x.2.2<=5/\x.2.1<=l.length
theorem zaH (l:List Int) (e:Int) (h:1<=e) (h2:e<=5):Fine l (0,0,e):=by
 refine⟨fun h'=>?_,by omega,by omega,by simp;omega,by simpa using h2,by simp⟩;simp at h';omega
theorem zaj (l:List Int) (k:Int) (n:Nat) (h1:1<=n) (h2:n<=l.length) (h3:k≠1) (h4:k≠2) (h5:0<=k) (h6:k<=12):Fine l (k,n,0) :=
 ⟨fun _=>⟨h1,h2,fun h=>absurd h h3,fun h=>absurd h h4⟩,h5,h6,by simp,by simp,h2⟩
theorem zbV (l m:List Int) (f:Nat) (s:List Int) (hm:m.length<=l.length) (hf:f<=m.length) (hs:1<=s.length):Fine l (skip m f s):=by
 unfold skip;have h1:=ix_ge (m.drop f) s;have h2:=ix_room (m.drop f) s;rw[Bl]at h2;split
 ·exact zaH _ _ (by omega) (by omega)
 ·exact zaj _ _ _ (by omega) (by omega) (by omega) (by omega) (by omega) (by omega)
theorem zja (l:List Int) (h:0<l.length) (hb:K.Bytes l) (hz:l.getD 0 0≠10):1<=(line l).length:=by
 unfold line;have hr:=ix_room l [10];split
 ·rename_i h0
  have:=hr h0
  rw[Bc]
  have aa:ix l [10]≠0:=by
   intro he;cases l with
   | nil=>simp at h
   | cons z r =>
    have ab:z≠10:=by simpa using hz
    have ac:=hb.hd;unfold ix at he;simp only[Lib.bytesOf,Bp,CU]at he;unfold Lib.index at he
    have aa:([UInt8.ofNat (10:Int).toNat].isPrefixOf (UInt8.ofNat z.toNat::List.map (fun n=>UInt8.ofNat n.toNat) r))=false:=by
     simp only[List.isPrefixOf,Bool.and_true];rw[AY];intro e
     have:=congrArg UInt8.toNat e
     simp at this;omega
    rw[aa]at he;simp at he;split at he
    ·cases he
    ·have:=Lib.index_ge (List.map (fun n=>UInt8.ofNat n.toNat) r) [10]
     omega
  omega
 ·omega
theorem wkind_bd (l:List Int):0<=wkind l/\wkind l<=8/\(wkind l≠0->3<=wkind l):=by
 unfold wkind
 repeat' split
 all_goals omega
theorem ziN (l:List Int) (h:0<l.length):psize l<=l.length:=by
 unfold psize
 have:=run_le small (l.drop 1)
 rw[Bl]at this;omega
theorem piece_fine (l:List Int) (h:0<l.length) (hb:K.Bytes l):Fine l (piece l):=by
 unfold piece;simp only;have ab:=zja l h hb;have ac:=line_le l;split
 ·exact zaj _ _ _ (by omega) (by omega) (by omega) (by omega) (by omega) (by omega)
 split
 ·rename_i hz
  unfold comment;split
  ·rename_i hp
   have:=zb2 _ _ hp
   exact zbV l l 2 _ (by omega) (by simpa using this) (by simp)
  split
  ·exact zaj _ _ _ (ab (by omega)) ac (by omega) (by omega) (by omega) (by omega)
  ·exact zaH _ _ (by omega) (by omega)
 split
 ·exact zbV l _ 1 _ ac (ab (by omega)) (by simp)
 split
 ·unfold action;split
  ·exact zaH _ _ (by omega) (by omega)
  ·rename_i n hn
   have:=zih _ _ _ _ hn
   exact zaj _ _ _ this.1 this.2 (by omega) (by omega) (by omega) (by omega)
 split
 ·unfold percent;have hw:=wkind_bd ((l.take (psize l)).drop 1);split
  ·rename_i hp
   have:=zb2 _ _ hp
   exact zaj _ _ _ (by omega) (by simpa using this) (by omega) (by omega) (by omega) (by omega)
  split
  ·rename_i hp
   have:=zb2 _ _ hp
   exact zbV l l 2 _ (by omega) (by simpa using this) (by simp)
  split
  ·exact zaH _ _ (by omega) (by omega)
  ·rename_i hk
   have h3:=hw.2.2 hk;exact zaj _ _ _ (by unfold psize;omega) (ziN l h) (by omega) (by omega) (by omega) (by omega)
 split
 ·unfold literal;split
  ·rename_i hk
   have aa:=isLit_len hk;rw[Bc]at aa;exact⟨fun _=>⟨by simp,by simp;omega,fun h=>by simp at h,fun _=>hk⟩,by simp,by simp,by simp,by simp,by simp;omega⟩
  split
  ·rename_i h3 hk
   have aa:=isLit_len hk;rw[Bc]at aa
   have h4:4<=l.length:=by
    rcases Bz l.length 4 with h5|h5
    ·have e1:l.take 4=l:=Cb (by omega);have e2:l.take 3=l:=Cb (by omega);rw[e1]at hk;rw[e2]at h3;exact absurd hk h3
    ·exact h5
   exact⟨fun _=>⟨by simp,by simp;omega,fun h=>by simp at h,fun _=>hk⟩,by simp,by simp,by simp,by simp,by simp;omega⟩
  split
  ·exact zaH _ _ (by omega) (by omega)
  ·exact zaH _ _ (by omega) (by omega)
 split
 ·exact zaj _ _ _ (by omega) (by omega) (by omega) (by omega) (by omega) (by omega)
 split
 ·exact zaj _ _ _ (by omega) (by omega) (by omega) (by omega) (by omega) (by omega)
 split
 ·exact zaj _ _ _ (by omega) (by omega) (by omega) (by omega) (by omega) (by omega)
 ·unfold name;have hn:=zi5 l;split
  ·exact zaH _ _ (by omega) (by omega)
  split
  ·exact zaH _ _ (by omega) (by omega)
  ·rename_i h1 h2
   refine⟨fun _=>⟨by simp;omega,by simpa using hn,fun _=>?_,fun h=>by simp at h⟩,by simp,by simp,by simp,by simp,by simpa using hn⟩;simp only;unfold isName;have e:min (nsize l) l.length=nsize l:=by omega
   rw[zfV l _ (Ad _),Bc,e];simp only[AQ,AV];exact⟨by omega,by omega,trivial⟩
end T
namespace Gm
def find:List (List Int)->List Int->Int
 | [],_=>-1
 | x::r,s=>if x=s then 0 else if find r s<0 then -1 else find r s+1
theorem find_ge (l:List (List Int)) (s:List Int):-1<=find l s:=by
 induction l with
 | nil=>unfold find;omega
 | cons x r ih=>unfold find;split;omega;split <;> omega
theorem find_lt (l:List (List Int)) (s:List Int):find l s<l.length:=by
 induction l with
 | nil=>unfold find;simp
 | cons x r ih=>unfold find;simp only[Bt];split;omega;split <;> omega
theorem zaO {l:List (List Int)} {s:List Int}:find l s<0↔s ∉ l:=by
 induction l with
 | nil=>unfold find;simp
 | cons x r ih =>
  unfold find;by_cases hx:x=s
  ·rw[Ap hx];simp[hx]
  ·rw[AB hx];by_cases hr:find r s<0
   ·rw[Ap hr]
    have:=ih.1 hr
    simp only[Bq,not_or];exact⟨fun _=>⟨fun e=>hx e.symm,this⟩,fun _=>by omega⟩
   ·rw[AB hr]
    have:s∈r:=BO fun q=>hr (ih.2 q)
    constructor
    ·intro h;omega
    ·intro h;exact absurd (Bh _ this) h
theorem zhQ {l:List (List Int)} {s:List Int} (h:0<=find l s):∃i:Nat,find l s=(i:Int)/\∃hi:i<l.length,l[i]=s:=by
 induction l with
 | nil=>unfold find at h;omega
 | cons x r ih =>
  unfold find at h ⊢;by_cases hx:x=s
  ·rw[Ap hx];exact⟨0,rfl,by simp,hx⟩
  ·rw[AB hx]at h ⊢;by_cases hr:find r s<0
   ·rw[Ap hr]at h;omega
   ·rw[AB hr];obtain⟨i,h1,h2,h3⟩:=ih (by omega);exact⟨i+1,by rw[h1];rfl,by simp;omega,by simpa using h3⟩
theorem find_first {l:List (List Int)} {s:List Int} (i:Nat) (hi:i<l.length) (hs:l[i]=s) (hb:∀k (hk:k<i),l[k]'(by omega)≠s):find l s=(i:Int):=by
 induction l generalizing i with
 | nil=>simp at hi
 | cons x r ih =>
  unfold find;cases i with
  | zero=>rw[Ap (by simpa using hs)];rfl
  | succ i =>
   rw[AB (by simpa using hb 0 (by omega))]
   have:=ih i (by simpa using hi) (by simpa using hs) (fun k hk=>by simpa using hb (k+1) (by omega))
   rw[this,AB (by omega)];rfl
theorem find_not {l:List (List Int)} {s:List Int} (hb:∀k (hk:k<l.length),l[k]≠s):find l s = -1:=by
 have h1:find l s<0:=zaO.2 fun hm=>by
  obtain⟨k,hk,e⟩:=BB hm;exact hb k hk e
 have:=find_ge l s
 omega
def names (ts:List Tm):List (List Int):=ts.map Tm.nm
def term (G:Gr) (s:List Int):Int:=find (names G.ts) s
def non (G:Gr) (s:List Int):Int:=find G.ns s
def has (G:Gr) (z:Int):Bool:=if 0<=z then decide (z<G.ts.length) else decide (-1-z<G.ns.length)
def name (G:Gr) (z:Int):List Int:=if has G z then(if 0<=z then(names G.ts).getD z.toNat [] else G.ns.getD (-1-z).toNat []) else []
def named (s:List Int):Bool:=T.isName s||T.isLit s
def lev (n:Int):List Tm->Int->Bool
 | [],way=>way != 0
 | t::r,way=>if t.lv≠n then lev n r way else if way≠0/\way≠t.wy then false else lev n r t.wy
def term1 (ts:List Tm) (i:Nat) (t:Tm):Bool:=named t.nm&&(find (names ts) t.nm==(i:Int))&&decide (0<=t.lv)&&decide (t.lv<=24)&&decide (0<=t.wy)&&decide (t.wy<=3)&&((t.lv==0)==(t.wy==0))&&decide (∀n,n<t.lv.toNat->lev ((n+1:Nat):Int) ts 0=true)
def terms (ts:List Tm):Bool:=decide (ts.length<=24)&&decide (∀i (h:i<ts.length),term1 ts i ts[i]=true)
def non1 (G:Gr) (i:Nat) (s:List Int):Bool:=T.isName s&&(non G s==(i:Int))&&decide (term G s<0)
def nons (G:Gr):Bool:=decide (1<=G.ns.length)&&decide (G.ns.length<=16)&&decide (∀i (h:i<G.ns.length),non1 G i G.ns[i]=true)
def rule (G:Gr) (r:Rl):Bool:=decide (r.r.length<=6)&&decide (-1<=r.p)&&decide (r.p<G.ts.length)&&r.r.all fun z=>has G z && !(decide (0<=z)&&r.p == -1)
def rules (G:Gr):List Rl->Int->Bool
 | [],top=>top==G.ns.length-1
 | r::rs,top=>if r.l<0\/top+1<r.l\/rule G r=false then false else rules G rs (if top<r.l then r.l else top)
def right (G:Gr):Bool:=terms G.ts&&nons G&&decide (1<=G.rs.length)&&decide (G.rs.length<=40)&&decide (0<=G.st)&&decide (G.st<G.ns.length)&&rules G G.rs (-1)
def great (G:Gr):Bool:=decide (40<G.ts.length)||decide (40<G.ns.length)||decide (60<G.rs.length)||G.rs.any fun r=>decide (20<r.r.length)
end Gm
end Go.Proofs.YtjjbaehamplnaaaGreat
namespace Go.Calm
open Go.RowKit
section
variable {P:Program} {ops:Array Oper} {Q:Exit->Act->World->Prop} {md:Region.Mode}
def plainB:Op->Bool
 | .move _ | .assign _ | .pick .. | .load .. | .convert .. | .binOp .. | .unOp .. | .slice .. | .fieldAddr .. | .field .. | .indexAddr .. | .index .. | .extract .. | .build ..=>true
 | .call c=>match c.callee with
  | .builtin .len | .builtin .cap=>true
  | _=>false
 | _=>false
theorem value_of {s:Sem Value} {n:Next} (h:((do pure (.value (<-s))):Sem Next).run P w=.ok n w'):∃u,n=.value u:=by
 rw[EF]at h;cases hs:s.run P w with
 | ok v w1=>rw[hs]at h;simp[Result.andThen,C8]at h;exact⟨v,h.1.symm⟩
 | halt x w1=>rw[hs]at h;simp[Result.andThen]at h
theorem plain_value {o:Oper} (hp:plainB o.op=true) {a:Act} {n:Next} (h:(execOp a.eval o).run P w=.ok n w'):∃u,n=.value u:=by
 obtain⟨dst,op,type,pos,after,guard⟩:=o;cases op with
 | call c =>
  obtain⟨callee,args,ats⟩:=c;cases callee with
  | builtin b =>
   cases b with
   | len=>exact value_of (s:=Builtin.len_ ats type (args.map a.eval)) h
   | cap=>exact value_of (s:=Builtin.cap_ ats type (args.map a.eval)) h
   | _=>exact absurd hp (by simp[plainB])
  | invoke recv name=>exact absurd hp (by simp[plainB])
  | value f=>exact absurd hp (by simp[plainB])
 | move x=>simp[execOp,C8]at h;exact⟨_,h.1.symm⟩
 | assign x=>simp[execOp,C8]at h;exact⟨_,h.1.symm⟩
 | pick c x y =>
  simp only[execOp,EF]at h;cases hs:(asBool (a.eval c)).run P w with
  | ok v w1=>rw[hs]at h;simp[Result.andThen,C8]at h;exact⟨_,h.1.symm⟩
  | halt x w1=>rw[hs]at h;simp[Result.andThen]at h
 | _=>first
  | (simp[plainB]at hp;done)
  | exact value_of h
theorem yieldsIf_of {S:World->Prop} {o:Oper} {a:Act} (hp:plainB o.op=true) (hw:Region.wanted o (yielded ops a.tmps)=true) (h:∀w,S w->o.quietAt P a S w v):YieldsIf P ops S o v a:=by
 refine .inl ⟨hw,fun w hS=>?_⟩;have h1:=h w hS;unfold Oper.quietAt at h1;cases hr:(execOp a.eval o).run P w with
 | ok n w' =>
  obtain⟨u,rfl⟩:=plain_value hp hr;rw[hr]at h1;simp only[Oper.quietUpon]at h1;rw[h1.1,h1.2]
 | halt x w'=>rw[hr]at h1;simp[Oper.quietUpon]at h1
def pickOps (ops:Array Oper):List Nat->List Oper
 | []=>[]
 | i::r=>match ops[i]? with
  | some o=>o::pickOps ops r
  | none=>pickOps ops r
def marked:List Nat->Array Bool->Array Bool
 | [],l=>l
 | i::r,l=>marked r (l.setIfInBounds i true)
def stillB (md:Region.Mode) (ops:Array Oper):List Nat->Array Bool->Bool
 | [],_=>true
 | i::r,l=>(match ops[i]? with|some o=>plainB o.op|none=>false)&&Region.free md ops l i&&(Region.ready md ops l).contains i&&stillB md ops r (l.setIfInBounds i true)
theorem anyH_mono {S S':World->Prop} (h:∀x,S' x->S x):∀(fuel:Nat) (listed:Array Bool) (a:Act) (w:World),wpAnyH P md ops Q S' fuel listed a w->wpAnyH P md ops Q S fuel listed a w
 | 0,_,_,_,k=>k
 | fuel+1,_,_,_,k=>⟨k.1,fun i hi=>wpOp_mono (fun a w hk=>⟨h _ hk.1,anyH_mono h fuel _ a w hk.2⟩) (k.2 i hi)⟩
theorem still_block {S:World->Prop} (hs:Region.noSelect ops=true) (hQ:∀c a d v w,Q (.panic c) (a.put d v) w->Q (.panic c) a w) {w:World} (hS:S w) (fuel:Nat) :
  ∀(p:List Nat) (listed:Array Bool) (a:Act),stillB md ops p listed=true ->
   wpQuiet P ops S (fun a'=>wpAnyH P md ops Q S fuel (marked p listed) a' w) (pickOps ops p) a->wpAnyH P md ops Q S (p.length+fuel) listed a w
 | [],_,_,_,h=>by rw[Ey,Bu];exact h
 | i::r,listed,a,hb,h=>by
  unfold stillB at hb;cases ho:ops[i]? with
  | none=>rw[ho]at hb;simp at hb
  | some o =>
   rw[ho]at hb;simp only[AQ]at hb;obtain⟨⟨⟨hp,hf⟩,hr⟩,aa⟩:=hb;have hl:pickOps ops (i::r)=o::pickOps ops r:=by simp only[pickOps,ho]
   rw[hl]at h;rw[show(i::r).length+fuel=(r.length+fuel)+1 by rw[Bt];omega];unfold wpQuiet at h;by_cases hw:Region.wanted o (yielded ops a.tmps)=true
   ·rw[Ap hw]at h;obtain⟨v,h1,h2⟩:=h;exact wpAnyH_take ho hs hf hr (fun c a w=>hQ c a o.dst v w) (yieldsIf_of hp hw h1) hS (still_block hs hQ hS fuel r _ _ aa h2)
   ·rw[AB hw]at h;exact wpAnyH_take ho hs hf hr (fun c a w=>hQ c a o.dst undef w) (.inr ⟨by simpa using hw,rfl⟩) hS (still_block hs hQ hS fuel r _ _ aa h)
where
 wpQuiet_mono' {S:World->Prop} {Q1 Q2:Act->Prop} (h:∀a,Q1 a->Q2 a):∀ {l:List Oper} {a:Act},wpQuiet P ops S Q1 l a->wpQuiet P ops S Q2 l a
  | [],_,k=>h _ k
  | o::r,a,k=>by
   unfold wpQuiet at k ⊢;split
   ·rename_i hw;rw[Ap hw]at k;obtain⟨v,h1,h2⟩:=k;exact⟨v,h1,wpQuiet_mono' h h2⟩
   ·rename_i hw;rw[AB hw]at k;exact wpQuiet_mono' h k
end
def On (B:Nat) (w:World):Type:={x:World // Below B w x}
instance (B:Nat) (w:World):Nonempty (On B w):=⟨⟨w,Aq _ _⟩⟩
end Go.Calm
namespace Go.Proofs.YtjjbaehamplnaaaGreat
open Go.RowKit
theorem zi2 {x:World} (h:Below B w x):Hid (∃z:Calm.On B w,x=z.1):=aA ⟨⟨x,h⟩,rfl⟩
theorem zbf (w:World):Hid (∃z:Calm.On w.heap.size w,w.drew=z.1):=zi2 (aB (Aq _ _) 1)
end Go.Proofs.YtjjbaehamplnaaaGreat
namespace Go.Proofs.YtjjbaehamplnaaaGreat
open Go.RowKit
theorem zkC (z:Int) (hz:-9223372036854775808<=z) (aa:z<=9223372036854775807) (w:World) :
  Calls Tryz.prog 196 #[.int .i64 z] w fun e w'=>e=.returned (.int .i64 (-1-z))/\w'=w:=by
 have hs:IntKind.i64.wrap (-1-z) = -1-z:=Cr _ (by omega);clear hz aa
 go_enter Tryz.func196,Tryz.ntmps196
 go_wp2;go_ret
 exact⟨rfl,rfl⟩
theorem zcG (z:Int) (w:World) :
  Calls Tryz.prog 157 #[.int .i64 z] w fun e w'=>e=.returned (.bool (decide (0<=z)))/\w'=w:=by
 go_enter Tryz.func157,Tryz.ntmps157
 go_wp2;go_ret
 exact⟨rfl,rfl⟩
theorem zew (v:Value) (G:Gm.Gr) (B:Nat) (z:Int) (hz:Gm.In z) (w:World) (hg:aQ w B v G) :
  Calls Tryz.prog 156 #[v,.int .i64 z] w fun e w'=>e=.returned (.bool (Gm.has G z))/\Below w.heap.size w w':=by
 obtain⟨AT,cT,AN,cN,AR,cR,rfl,_⟩:=hg;have HB:=aA (fun o=>(Aq w.heap.size w).alloc (Ad _) o);unfold Gm.In at hz;unfold Gm.has;by_cases h0:0<=z
 ·rw[Ap h0];clear hz
  go_enter Tryz.func156,Tryz.ntmps156
  go_wp2;go_ret
  exact⟨rfl,HB.o _⟩
 ·rw[AB h0];have HN:=aA (fun w=>zkC z (by omega) (by omega) w);have aa:decide (0<=z)=false:=AM h0;clear hz
  go_enter Tryz.func156,Tryz.ntmps156
  go_wp2_with fail
  go_quiet ((go_at_call 196;exact Dc (HN.o _)))
  go_wp2;go_ret
  exact⟨rfl,aB (HB.o _) _⟩
theorem zg0 (v:Value) (G:Gm.Gr) (B:Nat) (z:Int) (hz:Gm.In z) (w:World) (hg:aQ w B v G) :
  Calls Tryz.prog 112 #[v,.int .i64 z] w fun e w'=>e=.returned (.bool (Gm.has G z))/\Below w.heap.size w w':=by
 obtain⟨AT,cT,AN,cN,AR,cR,rfl,_⟩:=hg;have HB:=aA (fun o=>(Aq w.heap.size w).alloc (Ad _) o);unfold Gm.In at hz;unfold Gm.has;have hs:¬0<=z->IntKind.i64.wrap (-1-z) = -1-z:=fun h=>Cr _ (by omega);by_cases h0:0<=z
 ·rw[Ap h0];clear hz hs
  go_enter Tryz.func112,Tryz.ntmps112
  go_wp2;go_ret
  exact⟨rfl,HB.o _⟩
 ·rw[AB h0];have hs:=hs h0;clear hz
  go_enter Tryz.func112,Tryz.ntmps112
  go_wp2;go_ret
  exact⟨rfl,HB.o _⟩
def fnd (l:List (List Int)) (s:List Int) (k:Nat):Prop:=∀i (h:i<l.length),i<k->l[i]≠s
theorem fnd.zero (l:List (List Int)) (s:List Int):fnd l s 0:=fun _ _ h=>by omega
theorem fnd.next {l:List (List Int)} {s:List Int} (h:fnd l s k) (hk:k<l.length) (hn:l[k]≠s):fnd l s (k+1):=fun i hi aa=>by
 rcases Bz i k with h1|h1
 ·exact h i hi h1
 ·obtain rfl:i=k:=by omega
  exact hn
theorem fnd.here {l:List (List Int)} {s:List Int} (h:fnd l s k) (hk:k<l.length) (hn:l[k]=s):Gm.find l s=(k:Int):=Gm.find_first k hk hn fun i hi=>h i (by omega) hi
theorem fnd.none {l:List (List Int)} {s:List Int} (h:fnd l s k) (hk:l.length<=k):Gm.find l s = -1:=Gm.find_not fun i hi=>h i hi (by omega)
theorem K.eqB {m:List Int} (hl:K.Tx l) (hm:K.Tx m):((K.str l).toList==(K.str m).toList)=decide (l=m):=by
 rw[Bn];simp only[BH,AV]
 constructor
 ·intro h;rw[CH,CH]at h;exact K.bytes_inj hl.1 hm.1 (by simpa[K.str] using h)
 ·rintro rfl;rfl
theorem zbk (v:Value) (G:Gm.Gr) (s:List Int) (B:Nat) (w:World) (hg:aQ w B v G) (hf:Gm.Fit G) (hs:K.Tx s) (hB:B<=w.heap.size) :
  Calls Tryz.prog 109 #[v,.string (K.str s)] w fun e w'=>e=.returned (.int .i64 (Gm.term G s))/\Below w.heap.size w w':=by
 obtain⟨AT,cT,AN,cN,AR,cR,rfl,⟨hl,hm⟩,_,_,ht,_,_⟩:=hg;have HB:=aA (fun o=>(Aq w.heap.size w).alloc (Ad _) o);have HT:=aA ht;have HF:=aA hf.t;have HL:Hid ((Gm.names G.ts).length=G.ts.length):=aA (by simp[Gm.names]);have ab:(G.ts.length:Int)<=9223372036854775807:=by omega
 clear ht hf
 go_enter Tryz.func109,Tryz.ntmps109
 go_wp2
 go_loop [5] (fun vi=>∃(k:Nat),k<=G.ts.length/\vi=.int .i64 k/\fnd (Gm.names G.ts) s k) (fun vi=>G.ts.length-(intOf vi).toNat)
 case atStart=>exact⟨0,AX _,rfl,fnd.zero _ _⟩
 case round =>
  obtain⟨k,hk,rfl,hn⟩:=hrel;have HN:=aA hn;clear hn;by_cases b:k<G.ts.length
  ·obtain⟨g,o,rfl,ac,hc⟩:=HT.o (by omega);have k0:=(hc k b).1;have ad:g<w.heap.size:=by omega
   have hq:=(HF.o _ (Ay b)).1;have aa:(Gm.names G.ts)[k]'(by rw[HL.o];exact b)=G.ts[k].nm:=by simp[Gm.names]
   have he:=K.eqB hq hs;have HQ:=aA aa;clear hc hq aa;generalize G.ts[k].nm=x at *;by_cases hx:x=s
   ·have HR:=aA (HN.o.here (by rw[HL.o];exact b) (HQ.o.trans hx));rw[AJ hx]at he;clear hx;go_wp2;go_ret
    exact⟨aP HR.o.symm,HB.o _⟩
   ·have HR:=aA (HN.o.next (by rw[HL.o];exact b) (fun e=>hx (HQ.o.symm.trans e)));rw[AM hx]at he;clear hx;go_wp2
    go_round
    case rel=>exact⟨k+1,by omega,by go_num,HR.o⟩
    case measure=>simp[intOf];omega
  ·obtain rfl:k=G.ts.length:=by omega
   have HR:=aA (HN.o.none (by rw[HL.o];omega));go_wp2;go_ret
   exact⟨aP HR.o.symm,HB.o _⟩
theorem zeO (v:Value) (G:Gm.Gr) (s:List Int) (B:Nat) (w:World) (hg:aQ w B v G) (hf:Gm.Fit G) (hs:K.Tx s) (hB:B<=w.heap.size) :
  Calls Tryz.prog 89 #[v,.string (K.str s)] w fun e w'=>e=.returned (.int .i64 (Gm.non G s))/\Below w.heap.size w w':=by
 obtain⟨AT,cT,AN,cN,AR,cR,rfl,_,⟨hl,hm⟩,_,_,ht,_⟩:=hg;have HB:=aA (fun o=>(Aq w.heap.size w).alloc (Ad _) o);have HT:=aA ht;have HF:=aA hf.n;have aa:(G.ns.length:Int)<=9223372036854775807:=by omega
 clear ht hf
 go_enter Tryz.func89,Tryz.ntmps89
 go_wp2
 go_loop [5] (fun vi=>∃(k:Nat),k<=G.ns.length/\vi=.int .i64 k/\fnd G.ns s k) (fun vi=>G.ns.length-(intOf vi).toNat)
 case atStart=>exact⟨0,AX _,rfl,fnd.zero _ _⟩
 case round =>
  obtain⟨k,hk,rfl,hn⟩:=hrel;have HN:=aA hn;clear hn;by_cases hlt:k<G.ns.length
  ·obtain⟨g,o,rfl,ab,hc⟩:=HT.o (by omega);have k0:=hc k hlt;have ac:g<w.heap.size:=by omega
   have he:=K.eqB (HF.o _ (Ay hlt)) hs;obtain⟨x,hq⟩:∃x,x=G.ns[k]:=⟨_,rfl⟩
   rw[<-hq]at k0 he;have HQ:=aA hq;clear hc hq;by_cases hx:x=s
   ·have HR:=aA (HN.o.here hlt (HQ.o.symm.trans hx));rw[AJ hx]at he;clear hx;go_wp2;go_ret
    exact⟨aP HR.o.symm,HB.o _⟩
   ·have HR:=aA (HN.o.next hlt (fun e=>hx (HQ.o.trans e)));rw[AM hx]at he;clear hx;go_wp2
    go_round
    case rel=>exact⟨k+1,by omega,by go_num,HR.o⟩
    case measure=>simp[intOf];omega
  ·obtain rfl:k=G.ns.length:=by omega
   have HR:=aA (HN.o.none (by omega));go_wp2;go_ret
   exact⟨aP HR.o.symm,HB.o _⟩
end Go.Proofs.YtjjbaehamplnaaaGreat
namespace Go.Proofs
open Go.Shelf
def Tryz.lays103_ren:Go.Shelf.Ren:=⟨fun|103=>191|210=>218|206=>231|n=>n,fun|9=>9|4=>4|24=>262|3=>3|n=>n,fun|n=>n⟩
theorem Tryz.lays103:Go.Proofs.Lays.n103 Tryz.prog Tryz.lays103_ren:={
 mixed:=by kernel_rfl
 f103:=Tryz.func191.trans (congrArg some (by kernel_rfl))
 f206:=Tryz.func231.trans (congrArg some (by kernel_rfl))
 f210:=Tryz.func218.trans (congrArg some (by kernel_rfl))
 t3:=Tryz.underlying3
 a3:=Tryz.isAgg3
 z3:=Tryz.sizeOf3
 v3:=Tryz.zeroValue3
 t4:=Tryz.underlying4
 a4:=Tryz.isAgg4
 z4:=Tryz.sizeOf4
 v4:=Tryz.zeroValue4
 t9:=Tryz.underlying9
 a9:=Tryz.isAgg9
 z9:=Tryz.sizeOf9
 v9:=Tryz.zeroValue9
 t24:=Tryz.underlying262
 a24:=Tryz.isAgg262
 z24:=Tryz.sizeOf262
 v24:=Tryz.zeroValue262}
open Go.RowKit in
theorem Tryz.strings_CutPrefix (s p:ByteArray) (w:World) :
  Calls Tryz.prog 191 #[.string s,.string p] w fun e w'=>e=.returned (.tuple #[.string ⟨(Lib.trimPrefix s.data.toList p.data.toList).toArray⟩,.bool (Lib.hasPrefix s.data.toList p.data.toList)])/\w'=w:=Any.strings_CutPrefix Tryz.lays103 s p w
def Tryz.lays104_ren:Go.Shelf.Ren:=⟨fun|104=>192|211=>219|207=>232|n=>n,fun|9=>9|4=>4|24=>262|3=>3|n=>n,fun|n=>n⟩
theorem Tryz.lays104:Go.Proofs.Lays.n104 Tryz.prog Tryz.lays104_ren:={
 mixed:=by kernel_rfl
 f104:=Tryz.func192.trans (congrArg some (by kernel_rfl))
 f207:=Tryz.func232.trans (congrArg some (by kernel_rfl))
 f211:=Tryz.func219.trans (congrArg some (by kernel_rfl))
 t3:=Tryz.underlying3
 a3:=Tryz.isAgg3
 z3:=Tryz.sizeOf3
 v3:=Tryz.zeroValue3
 t4:=Tryz.underlying4
 a4:=Tryz.isAgg4
 z4:=Tryz.sizeOf4
 v4:=Tryz.zeroValue4
 t9:=Tryz.underlying9
 a9:=Tryz.isAgg9
 z9:=Tryz.sizeOf9
 v9:=Tryz.zeroValue9
 t24:=Tryz.underlying262
 a24:=Tryz.isAgg262
 z24:=Tryz.sizeOf262
 v24:=Tryz.zeroValue262}
open Go.RowKit in
theorem Tryz.strings_CutSuffix (s p:ByteArray) (w:World) (hs:s.size<=9223372036854775807) :
  Calls Tryz.prog 192 #[.string s,.string p] w fun e w'=>e=.returned (.tuple #[.string ⟨(Lib.trimSuffix s.data.toList p.data.toList).toArray⟩,.bool (Lib.hasSuffix s.data.toList p.data.toList)])/\w'=w:=Any.strings_CutSuffix Tryz.lays104 s p w hs
def Tryz.lays122_ren:Go.Shelf.Ren:=⟨fun|122=>186|215=>212|n=>n,fun|3=>3|4=>4|n=>n,fun|n=>n⟩
theorem Tryz.lays122:Go.Proofs.Lays.n122 Tryz.prog Tryz.lays122_ren:={
 mixed:=by kernel_rfl
 f122:=Tryz.func186.trans (congrArg some (by kernel_rfl))
 f215:=Tryz.func212.trans (congrArg some (by kernel_rfl))
 t3:=Tryz.underlying3
 a3:=Tryz.isAgg3
 z3:=Tryz.sizeOf3
 v3:=Tryz.zeroValue3
 t4:=Tryz.underlying4
 a4:=Tryz.isAgg4
 z4:=Tryz.sizeOf4
 v4:=Tryz.zeroValue4}
open Go.RowKit in
theorem Tryz.cmp_Compare_int (x y:Int) (w:World) :
  Calls Tryz.prog 186 #[.int .i64 x,.int .i64 y] w fun e w'=>e=.returned (.int .i64 (Lib.compareInt x y))/\w'=w:=Any.cmp_Compare_int Tryz.lays122 x y w
def Tryz.lays212_ren:Go.Shelf.Ren:=⟨fun|212=>101|263=>151|264=>152|n=>n,fun|46=>178|51=>104|146=>230|53=>232|148=>233|n=>n,fun|n=>n⟩
theorem Tryz.lays212:Go.Proofs.Lays.n212 Tryz.prog Tryz.lays212_ren:={
 mixed:=by kernel_rfl
 f212:=Tryz.func101.trans (congrArg some (by kernel_rfl))
 f263:=Tryz.func151.trans (congrArg some (by kernel_rfl))
 f264:=Tryz.func152.trans (congrArg some (by kernel_rfl))
 t46:=Tryz.underlying178
 a46:=Tryz.isAgg178
 z46:=Tryz.sizeOf178
 v46:=Tryz.zeroValue178
 t51:=Tryz.underlying104
 a51:=Tryz.isAgg104
 z51:=Tryz.sizeOf104
 v51:=Tryz.zeroValue104
 t53:=Tryz.underlying232
 a53:=Tryz.isAgg232
 z53:=Tryz.sizeOf232
 v53:=Tryz.zeroValue232
 t146:=Tryz.underlying230
 a146:=Tryz.isAgg230
 z146:=Tryz.sizeOf230
 v146:=Tryz.zeroValue230
 t148:=Tryz.underlying233
 a148:=Tryz.isAgg233
 z148:=Tryz.sizeOf233
 v148:=Tryz.zeroValue233}
open Go.RowKit Go.Lib in
theorem Tryz.bits_Mul (x y:Nat) (hx:x<18446744073709551616) (hy:y<18446744073709551616) (w:World) :
  Calls Tryz.prog 101 #[.int .u64 x,.int .u64 y] w fun e w'=>e=.returned (.tuple #[.int .u64 ((x*y / 18446744073709551616:Nat):Int),.int .u64 ((x*y % 18446744073709551616:Nat):Int)])/\w'=w:=Any.bits_Mul Tryz.lays212 x y hx hy w
end Go.Proofs
namespace Go.Proofs.YtjjbaehamplnaaaGreat
open Go.RowKit
theorem zgJ (z:Int) (w:World) :
  Calls Tryz.prog 220 #[.int .u8 z] w fun e w'=>e=.returned (.bool (T.small z))/\w=w':=by
 unfold T.small
 go_enter Tryz.func220,Tryz.ntmps220
 go_wp2;all_goals go_ret
 all_goals (refine⟨aD ?_,rfl⟩;first|rfl|(rw[Bn];simp;done)|(rw[Bn];simp;omega))
theorem zje (z:Int) (w:World) :
  Calls Tryz.prog 194 #[.int .u8 z] w fun e w'=>e=.returned (.bool (T.head z))/\w=w':=by
 have P1:=fun w=>zgJ z w;unfold T.head;generalize T.small z=s at *
 go_enter Tryz.func194,Tryz.ntmps194
 go_wp2_with fail
 refine(P1 _).mono ?_;rintro _ w' ⟨rfl,rfl⟩;clear P1;cases s <;> go_wp2
 all_goals go_ret
 all_goals (refine⟨aD ?_,rfl⟩;first|rfl|(rw[Bn];simp;done)|(rw[Bn];simp;omega))
theorem ziu (z:Int) (w:World) :
  Calls Tryz.prog 195 #[.int .u8 z] w fun e w'=>e=.returned (.bool (T.tail z))/\w=w':=by
 unfold T.tail
 go_enter Tryz.func195,Tryz.ntmps195
 go_wp2;all_goals go_ret
 all_goals (refine⟨aD ?_,rfl⟩;first|rfl|(rw[Bn];simp;done)|(rw[Bn];simp;omega))
theorem zaB (z:Int) (w:World) :
  Calls Tryz.prog 159 #[.int .u8 z] w fun e w'=>e=.returned (.bool (T.head z))/\w=w':=by
 unfold T.head T.small
 go_enter Tryz.func159,Tryz.ntmps159
 go_wp2;all_goals go_ret
 all_goals (refine⟨aD ?_,rfl⟩;first|rfl|(rw[Bn];simp;done)|(rw[Bn];simp;omega))
theorem zdL (z:Int) (w:World) :
  Calls Tryz.prog 160 #[.int .u8 z] w fun e w'=>e=.returned (.bool (T.inName z))/\w=w':=by
 have P1:=fun w=>zaB z w;unfold T.inName T.tail;generalize T.head z=s at *
 go_enter Tryz.func160,Tryz.ntmps160
 go_wp2_with fail
 refine(P1 _).mono ?_;rintro _ w' ⟨rfl,rfl⟩;clear P1;cases s <;> go_wp2
 all_goals go_ret
 all_goals (refine⟨aD ?_,rfl⟩;first|rfl|(rw[Bn];simp;done)|(rw[Bn];simp;omega))
theorem zhk (A:Option Addr) (c B:Nat) (l:List Int) (w:World) (hr:RdB w B A l) (hn:l.length<=5000) :
  Calls Tryz.prog 154 #[.slice A l.length c] w fun e w'=>e=.returned (.int .i64 (T.nsize l))/\w=w':=by
 have HF:=aA (T.nsize_first l)
 go_enter Tryz.func154,Tryz.ntmps154
 go_wp2
 go_loop [3] (fun vi=>∃(k:Nat),k<=l.length/\vi=.int .i64 k/\(k=0\/T.nsize l=k+T.run T.inName (l.drop k))) (fun vi=>l.length-(intOf vi).toNat)
 case atStart=>exact⟨0,by omega,rfl,Or.inl rfl⟩
 case round =>
  obtain⟨k,hk,rfl,hs⟩:=hrel;have HS:=aA hs;clear hs;by_cases ad:k<l.length
  ·obtain⟨g,o,rfl,_,aa⟩:=hr (by omega);have ab:=aa k (by omega);have HN:=aA (T.run_next T.inName l k ad);have P1:=aA (fun w=>zje (l.getD k 0) w);have P2:=aA (fun w=>ziu (l.getD k 0) w);have HI:Hid (T.inName (l.getD k 0)=(T.head (l.getD k 0)||T.tail (l.getD k 0))):=aA rfl;have ac:Hid (k=0->T.nsize l=if T.head (l.getD k 0) then T.run T.inName (l.drop 1)+1 else 0):=aA (by rintro rfl;exact HF.o (by omega));clear aa HF;generalize l.getD k 0=z at *;generalize T.head z=hh at *;generalize T.tail z=tt at *;generalize T.inName z=ii at *;go_wp2_with fail
   refine(P1.o _).mono ?_;rintro _ w' ⟨rfl,rfl⟩;cases hh
   ·by_cases h0:k=0
    ·subst h0;go_wp2;go_ret
     exact⟨aP (by have:=ac.o (by trivial);simp at this;omega),rfl⟩
    ·have h1:0<k:=by omega
     clear h0;go_wp2_with fail
     refine(P2.o _).mono ?_;rintro _ w' ⟨rfl,rfl⟩;cases tt
     ·go_wp2;go_ret
      refine⟨aP ?_,rfl⟩;have e1:=HS.o;have e2:=HN.o;have e3:=HI.o;rw[e3]at e2;simp at e2;omega
     ·go_wp2
      go_round
      case rel =>
       refine⟨k+1,by omega,by go_num,Or.inr ?_⟩;have e1:=HS.o;have e2:=HN.o;have e3:=HI.o;rw[e3]at e2;simp at e2;omega
      case measure=>simp[intOf];omega
   ·go_wp2
    go_round
    case rel =>
     refine⟨k+1,by omega,by go_num,Or.inr ?_⟩;have e1:=HS.o;have e2:=HN.o;have e3:=HI.o;have e4:=ac.o;rw[e3]at e2;rcases e1 with rfl|e1
     ·have:=e4 rfl;simp at this;simp;omega
     ·simp at e2;omega
    case measure=>simp[intOf];omega
  ·obtain rfl:k=l.length:=by omega
   clear hr HF;go_wp2;go_ret
   refine⟨aP ?_,rfl⟩;rcases HS.o with h|h
   ·obtain rfl:=Bv h;simp[T.nsize]
   ·rw[T.run_end _ _ _ (Ad _)]at h;omega
theorem K.str_list (l:List Int):(K.str l).toList=K.bytes l:=by rw[CH];simp[K.str]
theorem zbt {m:List Int} (h:l=m):((K.str l).toList==K.bytes m)=true:=by rw[K.str_list,h];simp
theorem zbU {m:List Int} (hl:K.Bytes l) (hm:K.Bytes m) (h:¬l=m):((K.str l).toList==K.bytes m)=false:=by
 rw[K.str_list,AY];exact fun e=>h (K.bytes_inj hl hm e)
theorem K.str_size (l:List Int):(K.str l).size=l.length:=by simp[K.str,K.bytes,ByteArray.size]
theorem K.str_get (hl:K.Bytes l) (i:Nat) (h:i<(K.str l).size):(((K.str l)[i]'h).toNat:Int)=l.getD i 0:=by
 have h':i<(K.bytes l).length:=by rw[K.str_size]at h;simpa[K.bytes] using h
 rw[<-K.bytes_at hl i h']
 congr 2
theorem K.of (s:ByteArray):∃l,K.Bytes l/\s=K.str l:=by
 refine⟨s.data.toList.map fun b=>(b.toNat:Int),?_,?_⟩
 ·intro z hz;obtain⟨b,_,rfl⟩:=Bi.1 hz
  have:=b.toNat_lt
  omega
 ·unfold K.str K.bytes;rw[DV]
  have:((fun z:Int=>UInt8.ofNat z.toNat)∘fun b:UInt8=>(b.toNat:Int))=id:=by
   funext b;simp
  rw[this];simp
theorem zf1 (l:List Int) (hl:K.Bytes l) (hn:l.length<=9223372036854775807) (w:World) :
  Calls Tryz.prog 193 #[.string (K.str l)] w fun e w'=>e=.returned (.bool (T.isSign l))/\w=w':=by
 by_cases h0:l=[92,110]
 ·have e0:=zbt (l:=l) (m:=[92,110]) h0;rw[show K.bytes [92,110]=[92,110] from rfl]at e0;rw[show T.isSign l=true from by rw[h0];rfl];clear h0 hl hn;generalize K.str l=s at *
  go_enter Tryz.func193,Tryz.ntmps193
  go_wp2;go_ret
  exact⟨rfl,rfl⟩
 have e0:=zbU hl (m:=[92,110]) (zan _ (by decide)) h0;rw[show K.bytes [92,110]=[92,110] from rfl]at e0;by_cases h1:l=[92,116]
 ·have e1:=zbt (l:=l) (m:=[92,116]) h1;rw[show K.bytes [92,116]=[92,116] from rfl]at e1;rw[show T.isSign l=true from by rw[h1];rfl];clear h0 h1 hl hn;generalize K.str l=s at *
  go_enter Tryz.func193,Tryz.ntmps193
  go_wp2;go_ret
  exact⟨rfl,rfl⟩
 have e1:=zbU hl (m:=[92,116]) (zan _ (by decide)) h1;rw[show K.bytes [92,116]=[92,116] from rfl]at e1;by_cases h2:l=[92,92]
 ·have e2:=zbt (l:=l) (m:=[92,92]) h2;rw[show K.bytes [92,92]=[92,92] from rfl]at e2;rw[show T.isSign l=true from by rw[h2];rfl];clear h0 h1 h2 hl hn;generalize K.str l=s at *
  go_enter Tryz.func193,Tryz.ntmps193
  go_wp2;go_ret
  exact⟨rfl,rfl⟩
 have e2:=zbU hl (m:=[92,92]) (zan _ (by decide)) h2;rw[show K.bytes [92,92]=[92,92] from rfl]at e2;by_cases h3:l=[92,39]
 ·have e3:=zbt (l:=l) (m:=[92,39]) h3;rw[show K.bytes [92,39]=[92,39] from rfl]at e3;rw[show T.isSign l=true from by rw[h3];rfl];clear h0 h1 h2 h3 hl hn;generalize K.str l=s at *
  go_enter Tryz.func193,Tryz.ntmps193
  go_wp2;go_ret
  exact⟨rfl,rfl⟩
 have e3:=zbU hl (m:=[92,39]) (zan _ (by decide)) h3;rw[show K.bytes [92,39]=[92,39] from rfl]at e3;by_cases h4:l=[39]
 ·have e4:=zbt (l:=l) (m:=[39]) h4;rw[show K.bytes [39]=[39] from rfl]at e4;rw[show T.isSign l=false from by rw[h4];rfl];clear h0 h1 h2 h3 h4 hl hn;generalize K.str l=s at *
  go_enter Tryz.func193,Tryz.ntmps193
  go_wp2;go_ret
  exact⟨rfl,rfl⟩
 have e4:=zbU hl (m:=[39]) (zan _ (by decide)) h4;rw[show K.bytes [39]=[39] from rfl]at e4;by_cases h5:l=[92]
 ·have e5:=zbt (l:=l) (m:=[92]) h5;rw[show K.bytes [92]=[92] from rfl]at e5;rw[show T.isSign l=false from by rw[h5];rfl];clear h0 h1 h2 h3 h4 h5 hl hn;generalize K.str l=s at *
  go_enter Tryz.func193,Tryz.ntmps193
  go_wp2;go_ret
  exact⟨rfl,rfl⟩
 have e5:=zbU hl (m:=[92]) (zan _ (by decide)) h5;rw[show K.bytes [92]=[92] from rfl]at e5;have d:=K.str_size l;by_cases aa:l.length=1
 ·obtain⟨z,rfl⟩:=List.length_eq_one_iff.1 aa;have hz:=hl.hd
  have hv:T.isSign [z]=(decide (32<=z)&&decide (z<=126)):=by
   have n1:(z != 39)=true:=by simpa using h4
   have n2:(z != 92)=true:=by simpa using h5
   simp[T.isSign,n1,n2]
  rw[hv];have hb:∀h:0<(K.str [z]).size,(((K.str [z])[0]'h).toNat:Int)=z:=fun h=>K.str_get hl 0 h;simp only[Bt,Ey]at d;clear h0 h1 h2 h3 h4 h5 hl hn hv aa;generalize K.str [z]=s at *;have ab:((s.size:Int)==1)=true:=by rw[d];rfl
  have ac:0<s.size:=by omega
  have ad:=hb ac;clear d hb
  go_enter Tryz.func193,Tryz.ntmps193
  go_wp2;all_goals go_ret
  all_goals (refine⟨aD ?_,rfl⟩;first|rfl|(rw[Bn];simp;done)|(rw[Bn];simp;omega))
 ·have hv:T.isSign l=false:=by
   match l with
   | []=>rfl
   | [z]=>exact absurd rfl aa
   | [a,b] =>
    simp only[T.isSign,Bool.or_false,AY.2 h0,AY.2 h1,AY.2 h2,AY.2 h3]
   | a::b::c::r=>simp[T.isSign]
  rw[hv];have ab:(((K.str l).size:Int)==1)=false:=by rw[d];exact AY.2 (by omega)
  clear h0 h1 h2 h3 h4 h5 hl hn hv aa d;generalize K.str l=s at *
  go_enter Tryz.func193,Tryz.ntmps193
  go_wp2;go_ret
  exact⟨rfl,rfl⟩
theorem K.str_data (l:List Int):(K.str l).data.toList=K.bytes l:=by simp[K.str]
theorem zjg (r:List Int):Lib.hasPrefix (K.bytes (39::r)) [39]=true:=by
 simp[Lib.hasPrefix,K.bytes,List.isPrefixOf]
theorem zkV (hl:K.Bytes l) (h:∀r,l≠39::r):Lib.hasPrefix (K.bytes l) [39]=false:=by
 cases l with
 | nil=>rfl
 | cons z r =>
  have hz:=hl.hd;have hn:z≠39:=fun e=>h r (by rw[e]);simp only[Lib.hasPrefix,K.bytes,Bp,List.isPrefixOf,Bool.and_true];rw[AY];intro e
  have:=congrArg UInt8.toNat e
  simp at this;omega
theorem zjo (r:List Int) (w:World) :
  Calls Tryz.prog 191 #[.string (K.str (39::r)),.string ⟨#[39]⟩] w fun e w'=>e=.returned (.tuple #[.string (K.str r),.bool true])/\w=w':=by
 refine(Tryz.strings_CutPrefix (K.str (39::r)) ⟨#[39]⟩ w).mono fun e w' ⟨he,hw⟩=>⟨he.trans ?_,hw.symm⟩
 rw[K.str_data];have h:=zjg r;unfold Lib.trimPrefix;rw[show(#[39]:Array UInt8).toList=[39] from rfl,h,Ap rfl];rfl
theorem zk1 (l:List Int) (hl:K.Bytes l) (h:∀r,l≠39::r) (w:World) :
  Calls Tryz.prog 191 #[.string (K.str l),.string ⟨#[39]⟩] w fun e w'=>e=.returned (.tuple #[.string (K.str l),.bool false])/\w=w':=by
 refine(Tryz.strings_CutPrefix (K.str l) ⟨#[39]⟩ w).mono fun e w' ⟨he,hw⟩=>⟨he.trans ?_,hw.symm⟩
 rw[K.str_data];have h:=zkV hl h;unfold Lib.trimPrefix;rw[show(#[39]:Array UInt8).toList=[39] from rfl,h,AB (by simp)];rfl
theorem zjf (m:List Int):Lib.hasSuffix (K.bytes (m++[39])) [39]=true:=by
 unfold Lib.hasSuffix;rw[List.isSuffixOf_iff_suffix];exact⟨K.bytes m,by simp[K.bytes]⟩
theorem zkU (hl:K.Bytes l) (h:∀m,l≠m++[39]):Lib.hasSuffix (K.bytes l) [39]=false:=by
 rw[Eb];intro e;unfold Lib.hasSuffix at e;rw[List.isSuffixOf_iff_suffix]at e;obtain⟨t,ht⟩:=e;rcases List.eq_nil_or_concat l with rfl|⟨m,z,rfl⟩
 ·simp[K.bytes]at ht
 ·have hz:=hl z (by simp);have hk:K.bytes (m.concat z)=K.bytes m++[UInt8.ofNat z.toNat]:=by simp[K.bytes]
  rw[hk]at ht
  have:=List.append_inj_right' ht rfl
  injection this with this _
  have:=congrArg UInt8.toNat this
  simp at this;exact h m (by simp;omega)
theorem zfm (m:List Int) (hn:m.length<9223372036854775807) (w:World) :
  Calls Tryz.prog 192 #[.string (K.str (m++[39])),.string ⟨#[39]⟩] w fun e w'=>e=.returned (.tuple #[.string (K.str m),.bool true])/\w=w':=by
 refine(Tryz.strings_CutSuffix (K.str (m++[39])) ⟨#[39]⟩ w (by rw[K.str_size];simp;omega)).mono fun e w' ⟨he,hw⟩=>⟨he.trans ?_,hw.symm⟩
 rw[K.str_data];have h:=zjf m;unfold Lib.trimSuffix;rw[show(#[39]:Array UInt8).toList=[39] from rfl,h,Ap rfl]
 have:(K.bytes (m++[39])).take ((K.bytes (m++[39])).length-[(39:UInt8)].length)=K.bytes m:=by
  have e:K.bytes (m++[39])=K.bytes m++[39]:=by simp[K.bytes]
  rw[e];simp
 rw[this];rfl
theorem zh0 (l:List Int) (hl:K.Bytes l) (hn:l.length<=9223372036854775807) (h:∀m,l≠m++[39]) (w:World) :
  Calls Tryz.prog 192 #[.string (K.str l),.string ⟨#[39]⟩] w fun e w'=>e=.returned (.tuple #[.string (K.str l),.bool false])/\w=w':=by
 refine(Tryz.strings_CutSuffix (K.str l) ⟨#[39]⟩ w (by rw[K.str_size];omega)).mono fun e w' ⟨he,hw⟩=>⟨he.trans ?_,hw.symm⟩
 rw[K.str_data];have h:=zkU hl h;unfold Lib.trimSuffix;rw[show(#[39]:Array UInt8).toList=[39] from rfl,h,AB (by simp)];rfl
theorem zkH (l:List Int) (hl:K.Bytes l) (hn:l.length<=9223372036854775807) (w:World) :
  Calls Tryz.prog 153 #[.string (K.str l)] w fun e w'=>e=.returned (.bool (T.isLit l))/\w=w':=by
 by_cases hb:∃r,l=39::r
 ·obtain⟨r,rfl⟩:=hb;have P1:=aA (fun w=>zjo r w);have hr:K.Bytes r:=hl.tl;have aa:r.length<9223372036854775807:=by simp at hn;omega
  by_cases he:∃m,r=m++[39]
  ·obtain⟨m,rfl⟩:=he;have ab:m.length<9223372036854775807:=by simp at aa;omega
   have P2:=aA (fun w=>zfm m ab w);have P3:=aA (fun w=>zf1 m (fun z hz=>hr z (by simp[hz])) (by omega) w);rw[T.isLit_mid m];clear hl hn hr aa ab;generalize K.str (39::(m++[39]))=s at *;generalize K.str (m++[39])=s2 at *;generalize K.str m=s3 at *;generalize T.isSign m=b at *
   go_enter Tryz.func153,Tryz.ntmps153
   go_wp2_with fail
   refine(P1.o _).mono ?_;rintro _ w' ⟨rfl,rfl⟩;go_wp2_with fail
   refine(P2.o _).mono ?_;rintro _ w' ⟨rfl,rfl⟩;go_wp2_with fail
   refine(P3.o _).mono ?_;rintro _ w' ⟨rfl,rfl⟩;go_wp2;go_ret
   exact⟨rfl,rfl⟩
  ·have P2:=aA (fun w=>zh0 r hr (by omega) (fun m e=>he ⟨m,e⟩) w)
   have hv:T.isLit (39::r)=false:=by
    rcases hq:T.isLit (39::r) with _|_
    ·rfl
    ·obtain⟨m,hm⟩:=T.isLit_bare _ hq;injection hm with _ hm;exact absurd ⟨m,hm⟩ he
   rw[hv];clear hl hn hr aa he hv;generalize K.str (39::r)=s at *;generalize K.str r=s2 at *
   go_enter Tryz.func153,Tryz.ntmps153
   go_wp2_with fail
   refine(P1.o _).mono ?_;rintro _ w' ⟨rfl,rfl⟩;go_wp2_with fail
   refine(P2.o _).mono ?_;rintro _ w' ⟨rfl,rfl⟩;go_wp2;go_ret
   exact⟨rfl,rfl⟩
 ·have P1:=aA (fun w=>zk1 l hl (fun r e=>hb ⟨r,e⟩) w)
  have hv:T.isLit l=false:=by
   rcases hq:T.isLit l with _|_
   ·rfl
   ·obtain⟨m,hm⟩:=T.isLit_bare _ hq;exact absurd ⟨_,hm⟩ hb
  have P2:Hid (∃(s2:ByteArray) (b:Bool),∀w,Calls Tryz.prog 192 #[.string (K.str l),.string ⟨#[39]⟩] w fun e w'=>e=.returned (.tuple #[.string s2,.bool b])/\w=w'):=by
   refine aA ?_;by_cases he:∃m,l=m++[39]
   ·obtain⟨m,rfl⟩:=he;exact⟨K.str m,true,fun w=>zfm m (by simp at hn;omega) w⟩
   ·exact⟨K.str l,false,fun w=>zh0 l hl hn (fun m e=>he ⟨m,e⟩) w⟩
  obtain⟨s2,b,P2⟩:=P2.o
  replace P2:=aA P2
  rw[hv];clear hl hn hb hv;generalize K.str l=s at *
  go_enter Tryz.func153,Tryz.ntmps153
  go_wp2_with fail
  refine(P1.o _).mono ?_;rintro _ w' ⟨rfl,rfl⟩;go_wp2_with fail
  refine(P2.o _).mono ?_;rintro _ w' ⟨rfl,rfl⟩;go_wp2;go_ret
  exact⟨rfl,rfl⟩
def ziC (w:World) (l:List Int):Nat:=grownCap w l.length 0 5
def zll (w:World) (l:List Int):Obj:=.cells (bytesRow (K.str l) (ziC w l)) 5 ((bytesRow (K.str l) (ziC w l)).size,(bytesRow (K.str l) (ziC w l)).size+1)
theorem zgG (w:World) (l:List Int):(convert 9 72 (.string (K.str l))).run Tryz.prog w=.ok (.slice (some ⟨w.heap.size,0,none⟩) l.length (ziC w l)) (w.drew.alloc (zll w l)):=by
 have:=run_bytes_of_string (P:=Tryz.prog) w 9 72 5 (K.str l) Tryz.underlying9 Tryz.underlying72 Tryz.underlying5
 rw[K.str_size]at this;exact this
theorem zjE (w:World) (l:List Int) (hl:K.Bytes l):RdB (w.drew.alloc (zll w l)) (w.drew.alloc (zll w l)).heap.size (some ⟨w.heap.size,0,none⟩) l/\Below w.heap.size w (w.drew.alloc (zll w l))/\l.length<=ziC w l:=by
 refine⟨fun _=>⟨w.heap.size,0,rfl,by simp,fun j hj=>?_⟩,(aB (Aq _ _) 1).alloc (Ad _) _,grownCap_ge w l.length 0 _⟩
 have:=World.cell?_alloc_mark w.drew (bytesRow (K.str l) (ziC w l)) 5 ((bytesRow (K.str l) (ziC w l)).size,(bytesRow (K.str l) (ziC w l)).size+1) (0+j)
 rw[show w.drew.heap.size=w.heap.size from rfl]at this;unfold zll;rw[this];have aa:j<(K.bytes l).length:=by simpa[K.bytes] using hj
 have h2:0+j<(K.str l).data.size:=by simpa[K.str] using aa
 rw[bytesRow_at (K.str l) _ (0+j) h2]
 have:=K.bytes_at hl j aa
 rw[<-this];simp[K.str]
theorem ze1 (l:List Int) (hl:K.Bytes l) (w:World) :
  Calls Tryz.prog 103 #[.string (K.str l)] w fun e w'=>e=.returned (.bool (T.isName l))/\Below w.heap.size w w':=by
 have ab:=K.str_size l;by_cases h0:l=[]
 ·subst h0;have e0:(K.str []).toList=[]:=by rw[K.str_list];rfl
  have hv:T.isName []=false:=by decide
  rw[hv];clear ab hl hv;generalize K.str []=s at *
  go_enter Tryz.func103,Tryz.ntmps103
  go_wp2;go_ret
  exact⟨rfl,Aq _ _⟩
 ·have e0:=zbU hl (m:=[]) (zan _ (by decide)) h0;rw[show K.bytes []=[] from rfl]at e0;have e2:¬(K.str l).toList=[]:=by simpa using e0
  have e1:(!(K.str l).toList.isEmpty)=true:=by
   rw[K.str_list];cases l with
   | nil=>exact absurd rfl h0
   | cons z r=>rfl
  have aa:l.length≠0:=fun e=>h0 (Bv e);by_cases ac:l.length<=20
  ·have hv:T.isName l=(((T.nsize l:Nat):Int)==(l.length:Int)):=by
    unfold T.isName;rw[AJ ac,AJ aa,Cj,Cj,Bn]
    simp;omega
   have C1:=fun w=>zgG w l;have P1:=aA (fun(w:World)=>(zhk (some ⟨w.heap.size,0,none⟩) (ziC w l) _ l (w.drew.alloc (zll w l)) (zjE w l hl).1 (by omega)));have B1:=aA (fun(w:World)=>(zjE w l hl).2.1);rw[hv];clear hv aa h0 hl;generalize T.nsize l=n at *;have ad:(l.length:Int)<=20:=by omega
   clear ac;generalize l.length=m at *;have HZ:=aA ab;have ae:((K.str l).size:Int)=m:=by omega
   clear ab;generalize K.str l=s at *
   go_enter Tryz.func103,Tryz.ntmps103
   go_wp2_with (simp only[C1])
   refine(P1.o _).mono ?_;rintro _ w' ⟨rfl,rfl⟩;go_wp2;go_ret
   exact⟨rfl,B1.o w⟩
  ·have hv:T.isName l=false:=by unfold T.isName;rw[AM ac];rfl
   rw[hv];have af:¬((K.str l).size:Int)<=20:=by omega
   clear hv aa h0 hl ac ab;generalize K.str l=s at *
   go_enter Tryz.func103,Tryz.ntmps103
   go_wp2;go_ret
   exact⟨rfl,Aq _ _⟩
theorem zbY (l:List Int) (hl:K.Bytes l) (w:World) :
  Calls Tryz.prog 111 #[.string (K.str l)] w fun e w'=>e=.returned (.bool (T.isName l))/\w=w':=by
 have d:=K.str_size l;by_cases h0:l.length=0
 ·obtain rfl:=Bv h0;rw[show T.isName []=false from rfl];have af:((K.str []).size:Int)=0:=by rw[d];rfl
  clear d hl h0;generalize K.str []=s at *
  go_enter Tryz.func111,Tryz.ntmps111
  go_wp2;go_ret
  exact⟨rfl,rfl⟩
 by_cases f:l.length<=20
 ·have b:=T.isName_iff l;rw[AJ h0,AJ f,Cj,Cj]at b;have hp:0<(K.str l).size:=by omega
  have ac:=K.str_get hl 0 hp;have P1:=aA (fun w=>zaB (l.getD 0 0) w);have ag:(((K.str l).size:Int)==0)=false:=AY.2 (by omega);have ah:((K.str l).size:Int)<=20:=by omega
  by_cases hh:T.head (l.getD 0 0)=true
  ·rw[hh,Cj]at b;have HI:=aA b;have aa:(l.length:Int)=((K.str l).size:Int):=by omega
   have HB:=aA (fun k h=>K.str_get hl k h);have HP:=aA (fun k w=>zdL (l.getD k 0) w);rw[hh]at P1;have HL:=aA d;clear d aa b hh h0 f hl;generalize l.getD 0 0=z at *;generalize T.isName l=res at *;generalize K.str l=s at *
   go_enter Tryz.func111,Tryz.ntmps111
   go_wp2_with fail
   refine(P1.o _).mono ?_;rintro _ w' ⟨rfl,rfl⟩;go_wp2
   go_loop [3] (fun vi=>∃(k:Nat),k<=s.size/\vi=.int .i64 k/\∀j,j<k->T.inName (l.getD j 0)=true) (fun vi=>s.size-(intOf vi).toNat)
   case atStart=>exact⟨0,by omega,rfl,fun j hj=>by omega⟩
   case round =>
    obtain⟨k,hk,rfl,hs⟩:=hrel;have HS:=aA hs;clear hs ac P1;by_cases ad:k<s.size
    ·have ai:=HB.o k ad;have P2:=aA (HP.o k);rcases hq:T.inName (l.getD k 0) with _|_
     ·have HF:Hid (T.inName (l.getD k 0)=false):=aA hq;rw[hq]at P2;clear hq;have HK:Hid (k<l.length):=aA (by have:=HL.o;omega);generalize hz:l.getD k 0=z at *;have HZ:=aA hz;clear hz;go_wp2_with fail
      refine(P2.o _).mono ?_;rintro _ w' ⟨rfl,rfl⟩;go_wp2;go_ret
      refine⟨aD ?_,rfl⟩;rw[HI.o]
      symm
      apply AM;intro h;have h1:=h k HK.o;have h2:=HF.o;rw[HZ.o]at h1;rw[h1]at h2;cases h2
     ·have HF:Hid (T.inName (l.getD k 0)=true):=aA hq;rw[hq]at P2;clear hq;generalize hz:l.getD k 0=z at *;have HZ:=aA hz;clear hz;go_wp2_with fail
      refine(P2.o _).mono ?_;rintro _ w' ⟨rfl,rfl⟩;go_wp2
      go_round
      case rel =>
       refine⟨k+1,by omega,by go_num,fun j hj=>?_⟩;by_cases ae:j=k
       ·subst ae;rw[HZ.o];exact HF.o
       ·exact HS.o j (by omega)
      case measure=>simp[intOf];omega
    ·obtain rfl:k=s.size:=by omega
     go_wp2;go_ret
     refine⟨aD ?_,rfl⟩;rw[HI.o]
     symm
     apply AJ;intro j hj;exact HS.o j (by have:=HL.o;omega)
  ·have ab:T.head (l.getD 0 0)=false:=by simpa using hh
   rw[ab,C9]at b;rw[b];rw[ab]at P1;clear d b hh ab h0 f hl;generalize l.getD 0 0=z at *;generalize K.str l=s at *
   go_enter Tryz.func111,Tryz.ntmps111
   go_wp2_with fail
   refine(P1.o _).mono ?_;rintro _ w' ⟨rfl,rfl⟩;go_wp2;go_ret
   exact⟨rfl,rfl⟩
 ·have hv:T.isName l=false:=by unfold T.isName;rw[AM f];rfl
  rw[hv];have aj:((K.str l).size:Int) > 20:=by omega
  have ak:(((K.str l).size:Int)==0)=false:=AY.2 (by omega);clear hv h0 hl f d;generalize K.str l=s at *
  go_enter Tryz.func111,Tryz.ntmps111
  go_wp2;go_ret
  exact⟨rfl,rfl⟩
theorem zcW (l:List Int) (hl:K.Bytes l) (w:World) :
  Calls Tryz.prog 158 #[.string (K.str l)] w fun e w'=>e=.returned (.bool (T.isLit l))/\w=w':=by
 have f:=K.str_size l;by_cases h3:l.length=3
 ·obtain⟨a,b,c,rfl⟩:∃a b c,l=[a,b,c]:=by
   match l,h3 with
   | [a,b,c],_=>exact⟨a,b,c,rfl⟩
  clear h3;have hs:(K.str [a,b,c]).size=3:=f;have g:0<(K.str [a,b,c]).size:=by omega
  have i:1<(K.str [a,b,c]).size:=by omega
  have j:2<(K.str [a,b,c]).size:=by omega
  have ab:(((K.str [a,b,c])[0]'g).toNat:Int)=a:=K.str_get hl 0 g;have ac:(((K.str [a,b,c])[1]'i).toNat:Int)=b:=K.str_get hl 1 i;have ad:(((K.str [a,b,c])[2]'j).toNat:Int)=c:=K.str_get hl 2 j;have hq:(((K.str [a,b,c]).size:Int)==3)=true:=by rw[hs];rfl
  unfold T.isLit;clear hs f hl;generalize K.str [a,b,c]=s at *
  go_enter Tryz.func158,Tryz.ntmps158
  go_wp2;all_goals go_ret
  all_goals (refine⟨aD ?_,rfl⟩;first|(simp_all;done)|(simp_all;omega))
 by_cases h4:l.length=4
 ·obtain⟨a,b,c,d,rfl⟩:∃a b c d,l=[a,b,c,d]:=by
   match l,h4 with
   | [a,b,c,d],_=>exact⟨a,b,c,d,rfl⟩
  clear h3 h4;have hs:(K.str [a,b,c,d]).size=4:=f;have g:0<(K.str [a,b,c,d]).size:=by omega
  have i:1<(K.str [a,b,c,d]).size:=by omega
  have j:2<(K.str [a,b,c,d]).size:=by omega
  have aa:3<(K.str [a,b,c,d]).size:=by omega
  have ab:(((K.str [a,b,c,d])[0]'g).toNat:Int)=a:=K.str_get hl 0 g;have ac:(((K.str [a,b,c,d])[1]'i).toNat:Int)=b:=K.str_get hl 1 i;have ad:(((K.str [a,b,c,d])[2]'j).toNat:Int)=c:=K.str_get hl 2 j;have af:(((K.str [a,b,c,d])[3]'aa).toNat:Int)=d:=K.str_get hl 3 aa;have ae:(((K.str [a,b,c,d]).size:Int)==3)=false:=by rw[hs];rfl
  have hq:(((K.str [a,b,c,d]).size:Int)==4)=true:=by rw[hs];rfl
  unfold T.isLit;clear hs f hl;generalize K.str [a,b,c,d]=s at *
  go_enter Tryz.func158,Tryz.ntmps158
  go_wp2;all_goals go_ret
  all_goals (refine⟨aD ?_,rfl⟩;first|(simp_all;done)|(simp_all;omega))
 ·have hv:T.isLit l=false:=by
   rcases hq:T.isLit l with _|_
   ·rfl
   ·have:=T.isLit_len hq;omega
  rw[hv];have ae:(((K.str l).size:Int)==3)=false:=AY.2 (by omega);have ag:(((K.str l).size:Int)==4)=false:=AY.2 (by omega);clear hv hl f h3 h4;generalize K.str l=s at *
  go_enter Tryz.func158,Tryz.ntmps158
  go_wp2;go_ret
  exact⟨rfl,rfl⟩
end Go.Proofs.YtjjbaehamplnaaaGreat
