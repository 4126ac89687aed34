/- Part of the proofs over this program: Shared, WordsI, WordsB, Bytes, GramL, LexL, GmL, Calm, CfgLeaf, Shelf, LexFn, LexStr, LexRef. -/
import Derived.Test.YtjjbaehamplnaaaGreatProg
import Derived.WalkKit
import Derived.WalkSpells
import Derived.WalkLawsBesides
import Derived.Deep.Draws
import Derived.BigQuiet
import Derived.Deep.QuietTactic
import Derived.RegionTactic
import Derived.Deep.DeepFit
import Derived.Deep.RegionWith
import Derived.Laws.CopyOwn
import Derived.Laws.OwnMore
import Derived.OwnWalk
import Derived.ProofKit
import Derived.OpenShut
import Derived.Laws.IdiomStrings
import Derived.Lib.IndexLaws
import Derived.Lib.IndexMore
import Derived.Lib.Strings
import Derived.Lib.Bytes
import Derived.Lib.Index
import Derived.OrdersHeld
import Derived.IntWalk
import Derived.Shelf.Small.Bits
import Derived.Shelf.Small.Wraps
import Derived.Shelf.Strconv.Itoa0
import Derived.Shelf.Strings.Prefix
import Derived.Shelf.Bits.Mul64
set_option linter.all false
namespace Go
theorem ω{p:Prop}(h:p:=by omega):p:=h
theorem δ{p:Prop}(h:p:=by decide):p:=h
theorem κ{p:Prop}(h:p:=by kernel_rfl):p:=h
theorem σ{p:Prop}(h:p:=by simp):p:=h
theorem ν{p:Prop}(h:p:=by go_num):p:=h
theorem ε{p:Prop}(h:p:=by rfl):p:=h
theorem ι{α:Type}{p:α→Prop}(x:α)(h:p x):p x:=h
theorem χ{α:Type}(a:α):∃y,y=a:=⟨a,rfl⟩
abbrev β(w x:World):=RowKit.Below w.heap.size w x
end Go
namespace Go
def Ah:=@Nat.le_trans
def BD:=@Go.RowKit.Below.heap_alloc
def Aj:=@Nat.lt_of_lt_of_le
def AQ:=@Go.RowKit.Below.heap_setCell
def Dc:=@Go.run_underlying
def Cu:=@List.ext_getElem
def AP:=@List.take_succ_eq_append_getElem
def BQ:=@List.getElem?_append_left
def Cp:=@List.getElem?_append_right
def De:=@List.set_append_right
def BJ:=@List.drop_eq_getElem_cons
def AF:=@Go.cell_of_row
def Af:=@Nat.le_refl
def EH:=@Go.World.cell?_alloc_lt
def Ck:=@Go.World.cell?_of_block
def Bm:=@List.length_take
def Dn:=@List.getElem_take
def BM:=@Nat.lt_or_ge
def Ev:=@Array.getElem?_eq_none
def AM:=@Go.frozen_of_row
def AI:=@Go.heap_alloc_new
def Ba:=@Go.heap_setCell_same
def EI:=@Array.ext'
def Cy:=@List.map_set
def Dy:=@List.getElem_drop
def AB:=@Go.RowKit.Below.refl
def Dg:=@Go.World.ownsRow_nil
def Dm:=@Go.World.ownsRow.alloc
def Ad:=@Array.getElem?_eq_some_iff
def CQ:=@Go.World.ownsRow.cells
def EK:=@Go.World.ownsRow.cellAt
def DR:=@Go.World.ownsRow.stored
def CE:=@List.length_set
def Cq:=@List.take_of_length_le
def CF:=@Go.info_parts
def DS:=@Nat.mul_one
def EL:=@Go.toList_madeCells_one
def AO:=@Go.World.grownBy.refl
def BI:=@List.eq_nil_of_length_eq_zero
def Bh:=@List.length_map
def Eb:=@Nat.min_eq_left
def Bk:=@List.getElem?_eq_some_iff
def BO:=@List.getElem?_map
def AH:=@List.getElem?_eq_getElem
def Bo:=@List.mem_map
def E5:=@Go.wpList_plain
def Dp:=@Go.wpList_append_own
def AZ:=@List.length_append
def Bi:=@List.map_append
def Br:=@Go.World.ownsRow.lt
def Di:=@Nat.eq_zero_or_pos
def DG:=@Option.some.inj
def Bq:=@List.mem_cons_of_mem
def Bn:=@List.mem_cons_self
def Bs:=@List.mem_append
def EM:=@List.mem_of_mem_take
def C7:=@List.mem_of_mem_drop
def AD:=@List.getElem_mem
def DI:=@List.mem_or_eq_of_mem_set
def Bt:=@List.length_drop
def Cg:=@List.getElem_map
def B6:=@List.all_eq_true
def AJ:=@if_neg
def Ee:=@List.map_map
def Cv:=@List.getElem_append_left
def Cb:=@List.drop_eq_nil_of_le
def Az:=@if_pos
def Bx:=@Bool.eq_iff_iff
def Bd:=@Bool.and_eq_true
def Bj:=@decide_eq_true_eq
def Ct:=@List.cons_append
def Dk:=@Option.map_eq_some_iff
def Bw:=@List.map_cons
def Dh:=@List.map_nil
def Bc:=@beq_eq_false_iff_ne
def Bz:=@List.length_cons
def BB:=@List.mem_cons
def BX:=@Classical.byContradiction
def BG:=@List.getElem_of_mem
def EP:=@Go.Sem.run_bind
def Ds:=@Go.Sem.run_pure
def Ey:=@List.length_nil
def BF:=@Nat.zero_add
def BV:=@Go.IntWalk.i64_in
def AU:=@decide_eq_false
def DF:=@Go.Calls.quiet_of_same
def BP:=@beq_iff_eq
def CX:=@Go.ByteArray.toList_eq
def Bb:=@Nat.zero_le
def AV:=@decide_eq_true
def Dz:=@Bool.eq_false_iff
def Cw:=@Bool.true_and
def CZ:=@Bool.false_and
end Go
open Go.RowKit Go.Proofs.Tryz
set_option maxRecDepth 100000
set_option maxHeartbeats 40000000
variable {A:Option Go.Addr} {B B' base base' g k n:Nat} {P:Go.Program} {fr:Nat×Nat} {l ls r zs:List Int} {ns:List (List Int)} {ops:Array Go.Oper} {p:Go.Addr} {v:Go.Value} {w w':Go.World} {z:Int}
namespace Go.Proofs.YtjjbaehamplnaaaGreat
theorem _root_.Go.RowKit.Hid.o {p:Prop} (h:Go.RowKit.Hid p):p:=h
end Go.Proofs.YtjjbaehamplnaaaGreat

namespace Go.Proofs.YtjjbaehamplnaaaGreat
theorem aA {p:Prop} (h:p):Hid p:=h
theorem Ig {a:World} {row:Option Nat} (h:a.grownBy w row) (n:Nat):a.grownBy (w.drewN n) row:=⟨h.os,h.tape,h.output,h.size,h.block⟩
theorem aI {a:World} {row:Option Nat} (h:a.grownBy w row) (o:Obj):a.grownBy (w.alloc o) row :=
 ⟨h.os,h.tape,h.output,Ah h.size σ,fun i hi aa=>(BD w o i (Aj hi h.size)).trans (h.block i hi aa)⟩
theorem aF {a:World} (h:a.grownBy w (some g)) (i:Nat) (u:Value):a.grownBy (w.setCell ⟨g,i,none⟩ u) (some g) :=
 ⟨h.os,h.tape,h.output,by simpa[World.setCell] using h.size,fun k hk aa=>(AQ w ⟨g,i,none⟩ u k (by rintro rfl;exact aa rfl)).trans (h.block k hk aa)⟩
theorem qI {a b c:World} {row:Option Nat} (h:a.grownBy b row) (k:b.grownBy c row):a.grownBy c row :=
 ⟨k.os.trans h.os,k.tape.trans h.tape,k.output.trans h.output,Ah h.size k.size,fun i hi aa=>(k.block i (Aj hi h.size) aa).trans (h.block i hi aa)⟩
theorem aL {a:World} (h:β a w) (row:Option Nat):a.grownBy w row:=⟨h.os,h.tape,h.output,h.size,fun i hi _=>h.block i hi⟩
theorem aM {a:World} (h:Below B a w) (hg:w.grownBy w' (some g)) (hB:B<=g) (hs:B<=w.heap.size):Below B a w' :=
 h.grown hg hs (fun k e=>by injection e with e;omega)
theorem aB {a:World} (h:Below B a w) (n:Nat):Below B a (w.drewN n):=⟨h.os,h.tape,h.output,h.size,h.block⟩
theorem aR {k:IntKind} {a b:Int} (h:a=b):Ending.returned (.int k a)=.returned (.int k b):=by rw[h]
theorem aD {a b:Bool} (h:a=b):Ending.returned (.bool a)=.returned (.bool b):=by rw[h]
theorem Kz (w:World) (g:Nat) (cs:Array Value):w.grownBy (w.setRow g cs) (some g) :=
 ⟨rfl,rfl,rfl,σ,fun k _ aa=>setRow_other w g k cs (fun e=>aa (by rw[e]))⟩
theorem Fx (w:World) (base:Nat) (t ty e:TypeId) (i:TypeInfo) (size:Nat) (ht:P.underlying t=some (.slice e)) (hi:P.info? e=some i) (v:Value) (n:Nat) (xs:List Value) (aa:w.ownsRow base e size v n xs) (c:Nat) :
  (Builtin.append_ #[t,t] ty #[v,.slice none 0 c]).run P w=.ok v w:=by
 rcases aa.2 with⟨rfl,rfl⟩|⟨g,cap,cur,rfl,_,_,ab,_⟩
 ·simp[Builtin.append_,Dc ht,sizeOf,typeInfo,hi,Builtin.lenOf,Builtin.firstCells]
 ·simp[Builtin.append_,Dc ht,sizeOf,typeInfo,hi,Builtin.lenOf,Builtin.firstCells,ab,storeCells]
theorem L.fy (h:k<l.length):l.getD k 0=l[k]:=by simp[List.getD,h]
theorem L.Gd (h:l.length<=k):l.getD k 0=0:=by simp[List.getD,h]
theorem L.uj {m:List Int} (h:l.length=m.length) (k:∀i,i<l.length->l.getD i 0=m.getD i 0):l=m:=by
 apply Cu h;intro i h1 h2
 have:=k i h1
 rwa [L.fy h1,L.fy h2]at this
theorem L.jt (l:List Int) (k:Nat) (h:k<l.length):l.take (k+1)=l.take k++[l.getD k 0]:=by
 rw[L.fy h,AP h]
theorem L.jS (pre xs post:List Int) (k:Nat) (h:k<xs.length):(pre++xs++post).getD (pre.length+k) 0=xs.getD k 0:=by
 simp only[List.getD];rw[BQ (by simp;omega),Cp ω,show pre.length+k-pre.length=k by omega]
theorem L.k9 (pre xs post:List Int) (k:Nat) (z:Int) (h:k<xs.length):(pre++xs++post).set (pre.length+k) z=pre++xs.set k z++post:=by
 rw[List.set_append_left _ _ (by simp;omega),De _ _ ω,show pre.length+k-pre.length=k by omega]
theorem L.fP (l:List Int) (k:Nat) (h:k<l.length):l.drop k=l.getD k 0::l.drop (k+1):=by
 rw[L.fy h,BJ h]
theorem aQ {a:Value} {l:List Value} {T:TypeId} (h:w.heap[g]?=some (.cells (List.toArray (a::l)) T fr)):w.cell? ⟨g,0,none⟩=some a:=AF w g 0 _ _ _ h
theorem aU {a b:Value} {l:List Value} {T:TypeId} (h:w.heap[g]?=some (.cells (List.toArray (a::b::l)) T fr)):w.cell? ⟨g,1,none⟩=some b:=AF w g 1 _ _ _ h
theorem bB {a b c:Value} {l:List Value} {T:TypeId} (h:w.heap[g]?=some (.cells (List.toArray (a::b::c::l)) T fr)):w.cell? ⟨g,2,none⟩=some c:=AF w g 2 _ _ _ h
theorem bL {a b c d:Value} {l:List Value} {T:TypeId} (h:w.heap[g]?=some (.cells (List.toArray (a::b::c::d::l)) T fr)):w.cell? ⟨g,3,none⟩=some d:=AF w g 3 _ _ _ h
theorem qJ {a b c d e:Value} {l:List Value} {T:TypeId} (h:w.heap[g]?=some (.cells (List.toArray (a::b::c::d::e::l)) T fr)):w.cell? ⟨g,4,none⟩=some e:=AF w g 4 _ _ _ h
theorem vU {a b c d e f:Value} {l:List Value} {T:TypeId} (h:w.heap[g]?=some (.cells (List.toArray (a::b::c::d::e::f::l)) T fr)):w.cell? ⟨g,5,none⟩=some f:=AF w g 5 _ _ _ h
theorem yQ {a b c d e f i:Value} {l:List Value} {T:TypeId} (h:w.heap[g]?=some (.cells (List.toArray (a::b::c::d::e::f::i::l)) T fr)):w.cell? ⟨g,6,none⟩=some i:=AF w g 6 _ _ _ h
theorem Km {a b c d e f i j:Value} {l:List Value} {T:TypeId} (h:w.heap[g]?=some (.cells (List.toArray (a::b::c::d::e::f::i::j::l)) T fr)):w.cell? ⟨g,7,none⟩=some j:=AF w g 7 _ _ _ h
open Go.RowKit Go.ChangeShapes Go.WideShapes Go.ChangeAt
def gg (w:World) (B:Nat) (A:Option Addr) (zs:List Int):Prop :=
 zs.length≠0->∃g o,A=some ⟨g,o,none⟩/\g<B/\∀j,j<zs.length->w.cell? ⟨g,o+j,none⟩=some (.int .i64 (zs.getD j 0))
theorem gg.nil (w:World) (B:Nat) (A:Option Addr):gg w B A []:=fun h=>absurd rfl h
theorem gg.fp (h:gg w B A zs) (hk:∀g o,g<B->w'.cell? ⟨g,o,none⟩=w.cell? ⟨g,o,none⟩):gg w' B A zs:=fun hn=>by
 obtain⟨g,o,e,hg,hc⟩:=h hn;exact⟨g,o,e,hg,fun j hj=>(hk _ _ hg).trans (hc j hj)⟩
theorem gg.more (h:gg w B A zs) (hB:B<=B'):gg w B' A zs:=fun hn=>by
 obtain⟨g,o,e,hg,hc⟩:=h hn;exact⟨g,o,e,ω,hc⟩
theorem gg.below (h:gg w B A zs) (hb:Below B' w w') (hB:B<=B'):gg w' B A zs :=
 h.fp fun g o hg=>hb.cell (p:=⟨g,o,none⟩) (Aj hg hB)
theorem gg.up (h:gg w w.heap.size A zs) (hb:β w w'):gg w' w'.heap.size A zs:=(h.below hb (Af _)).more hb.size
theorem gg.drewN (h:gg w B A zs) (n:Nat):gg (w.drewN n) B A zs:=h
theorem gg.drew (h:gg w B A zs):gg w.drew B A zs:=h
theorem gg.alloc (h:gg w B A zs) (hB:B<=w.heap.size) (o:Obj):gg (w.alloc o) B A zs :=
 h.fp fun g i hg=>EH w o ⟨g,i,none⟩ (Aj hg hB)
theorem gg.grown (h:gg w B A zs) (hg:w.grownBy w' (some g)) (hB:B<=g) (hs:B<=w.heap.size):gg w' B A zs :=
 h.fp fun p o hp=>Ck (hg.block p ω (fun e=>by injection e with e;omega))
theorem gg.take {w:World} {B:Nat} {A:Option Addr} {zs:List Int} (h:gg w B A zs) (k:Nat):gg w B A (zs.take k):=fun hn=>by
 have hl:(zs.take k).length<=zs.length:=by rw[Bm];omega
 obtain⟨g,o,e,hg,hc⟩:=h ω;refine⟨g,o,e,hg,fun j hj=>?_⟩;rw[hc j ω,L.fy hj,L.fy (by omega:j<zs.length),Dn]
theorem gg.cell {o:Nat} (h:gg w B (some ⟨g,o,none⟩) zs) (j:Nat) (hj:j<zs.length):w.cell? ⟨g,o+j,none⟩=some (.int .i64 (zs.getD j 0)):=by
 obtain⟨g',o',e,_,hc⟩:=h ω;injection e with e;injection e with e1 e2;subst e1 e2;exact hc j hj
def gJ (w:World) (g:Nat) (ls:List Int):Prop:=w.heap[g]?=some (.cells (ls.map (Value.int .i64)).toArray 3 (0,0))
theorem gJ.lt (h:gJ w g ls):g<w.heap.size:=by
 rcases BM g w.heap.size with aa|hge
 ·exact aa
 ·unfold gJ at h;rw[Ev hge]at h;cases h
theorem gJ.cell (h:gJ w g ls) (i:Nat) (hi:i<ls.length):w.cell? ⟨g,i,none⟩=some (.int .i64 (ls.getD i 0)):=by
 rw[AF w g i _ _ _ h];simp[hi,List.getD]
theorem gJ.frozen (h:gJ w g ls) (i:Nat):w.frozen? ⟨g,i,none⟩=false:=AM w g i _ _ h
theorem gJ.new (w:World) (ls:List Int):gJ (w.alloc (.cells (ls.map (Value.int .i64)).toArray 3)) w.heap.size ls:=AI w _
theorem gJ.drewN (h:gJ w g ls) (n:Nat):gJ (w.drewN n) g ls:=h
theorem gJ.drew (h:gJ w g ls):gJ w.drew g ls:=h
theorem gJ.alloc (h:gJ w g ls) (o:Obj):gJ (w.alloc o) g ls:=(BD w o g h.lt).trans h
theorem gJ.ky (h:gJ w g ls) (i:Nat) (z:Int):gJ (w.setCell ⟨g,i,none⟩ (.int .i64 z)) g (ls.set i z):=by
 unfold gJ at h ⊢;rw[Ba w g i _ _ _ h]
 congr 2
 apply EI;simp[Cy]
theorem gJ.jv (h:gJ w g ls) (hp:g≠p.block) (u:Value):gJ (w.setCell p u) g ls:=(AQ w p u g hp).trans h
theorem gJ.below (h:gJ w g ls) (hb:Below B w w') (hg:g<B):gJ w' g ls:=(hb.block g hg).trans h
theorem gJ.grown {row:Option Nat} (h:gJ w g ls) (hb:w.grownBy w' row) (hg:some g≠row):gJ w' g ls:=(hb.block g h.lt hg).trans h
theorem gJ.Fq {o:Nat} {pre xs post:List Int} (h:gJ w g (pre++xs++post)) (ho:o=pre.length) (k:Nat) (hk:k<xs.length):w.cell? ⟨g,o+k,none⟩=some (.int .i64 (xs.getD k 0)):=by
 rw[h.cell (o+k) (by simp;omega),ho,L.jS pre xs post k hk]
theorem gJ.rd (h:gJ w g ls) (o n:Nat) (hn:o+n<=ls.length) (hB:g<B):gg w B (some ⟨g,o,none⟩) ((ls.drop o).take n):=fun _=>by
 refine⟨g,o,rfl,hB,fun j hj=>?_⟩;have aa:j<n:=by rw[Bm]at hj;omega
 rw[h.cell (o+j) ω,L.fy hj,L.fy (by omega:o+j<ls.length),Dn,Dy]
theorem gJ.p7 (h:gJ w g ls) (hB:g<B):gg w B (some ⟨g,0,none⟩) ls:=by
 have:=h.rd 0 ls.length ω hB;simpa using this
theorem Kh:(prog.info? 3).map (fun i=>(i.zero,i.size,i.bytes))=some (some (.int .i64 0),1,8):=κ
theorem Oq (n:Nat):(List.replicate n (0:Int)).map (Value.int .i64)=List.replicate n (.int .i64 0):=σ
def vJ (ls:List Int):Obj:=.cells (ls.map (Value.int .i64)).toArray 3
theorem FO (w:World) (b:List Int):gg (w.alloc (vJ b)) (w.alloc (vJ b)).heap.size (some ⟨w.heap.size,0,none⟩) b/\Below w.heap.size w (w.alloc (vJ b)) :=
 ⟨(gJ.new w b).p7 σ,(AB _ _).alloc (Af _) _⟩
def aV (w:World) (base:Nat) (v:Value) (xs:List Int):Prop:=w.ownsRow base 3 1 v xs.length (xs.map (Value.int .i64))
theorem aV.nil (w:World) (base:Nat):aV w base (.slice none 0 0) []:=Dg w base _ _
theorem aV.alloc {xs:List Int} (h:aV w base v xs) (o:Obj):aV (w.alloc o) base v xs:=Dm h o
theorem aV.drewN {xs:List Int} (h:aV w base v xs) (n:Nat):aV (w.drewN n) base v xs:=h
theorem aV.below {xs:List Int} (h:aV w base v xs) (hb:Below B w w') (hB:w.heap.size<=B):aV w' base v xs:=by
 refine⟨h.1,?_⟩;rcases h.2 with h0|⟨g,cap,cur,e,aa,hg,hr⟩
 ·exact .inl h0
 ·exact .inr ⟨g,cap,cur,e,aa,(hb.block g (Aj (Ad.1 hg).1 hB)).trans hg,hr⟩
theorem aV.form {xs:List Int} (h:aV w base v xs):∃A c,v=.slice A xs.length c/\xs.length<=c/\c<=maxLen/\gg w w.heap.size A xs:=by
 rcases h.2 with⟨rfl,h0⟩|⟨g,cap,cur,rfl,hb,hg,hn,hm,hs,ht⟩
 ·exact⟨none,0,by rw[h0],ω,by unfold maxLen;omega,fun hc=>absurd h0 hc⟩
 ·refine⟨some ⟨g,0,none⟩,cap,rfl,hn,hm,fun _=>⟨g,0,rfl,?_,fun j hj=>?_⟩⟩
  ·exact(Ad.1 hg).1
  ·have hc:=CQ h (g:=g) rfl j (.int .i64 (xs.getD j 0)) (by simp[hj,List.getD]);have e:((⟨g,0,none⟩:Addr).add j)=⟨g,0+j,none⟩:=by unfold Addr.add;by_cases h0:j=0 <;> simp[h0]
   rw[e]at hc;exact hc
theorem aV.mono {xs:List Int} (h:aV w base v xs) (hb:base'<=base):aV w base' v xs:=by
 refine⟨h.1,?_⟩;rcases h.2 with h0|⟨g,cap,cur,e,aa,hr⟩
 ·exact .inl h0
 ·exact .inr ⟨g,cap,cur,e,ω,hr⟩
theorem aV.addr {xs:List Int} (h:aV w base v xs) (h0:xs.length≠0):∃g c,v=.slice (some ⟨g,0,none⟩) xs.length c/\xs.length<=c/\c<=maxLen/\base<=g:=by
 rcases h.2 with⟨_,h1⟩|⟨g,cap,cur,rfl,hb,hg,hn,hm,hs,ht⟩
 ·exact absurd h1 h0
 ·exact⟨g,cap,rfl,hn,hm,hb⟩
theorem aV.cellAt {c:Nat} {xs:List Int} (h:aV w base (.slice (some ⟨g,0,none⟩) n c) xs) (hn:n=xs.length) (j:Nat) (hj:j<xs.length):w.cell? ⟨g,j,none⟩=some (.int .i64 (xs.getD j 0)):=by
 subst hn;rw[EK h j ω];simp[hj,List.getD]
theorem aV.stored {c:Nat} {xs:List Int} (h:aV w base (.slice (some ⟨g,0,none⟩) n c) xs) (hn:n=xs.length) (j:Nat) (z:Int):aV (w.setCell ⟨g,j,none⟩ (.int .i64 z)) base (.slice (some ⟨g,0,none⟩) n c) (xs.set j z):=by
 subst hn
 have:=(DR h j (.int .i64 z)).1
 unfold aV;rw[CE,Cy];exact this
theorem OU (h:w.ownsRow base 3 1 (.slice (some ⟨g,0,none⟩) n n) n (ls.map (Value.int .i64))):gJ w g ls:=by
 rcases h.2 with⟨he,_⟩|⟨g',cap,cur,he,hb,hg,hn,hm,hs,ht⟩
 ·cases he
 ·injection he with e1 e2 e3;injection e1 with e1;injection e1 with e1;subst e1 e3;unfold gJ;rw[hg,<-ht,Cq (by simp[hs])]
theorem Is {rest:List Oper} {o:Oper} {a:Act} {Q:Exit->Act->World->Prop} (hg:o.guard=none) (l c:Operand) (t:TypeId) (ac:o.op=Op.makeSlice t l c) (ht:prog.underlying t=some (.slice 3)) (n:Nat) (L C:Int) (hl:a.eval l=.int .i64 L) (hc:a.eval c=.int .i64 C) (hL:L=(n:Int)) (hC:C=(n:Int)) (hn:n<=35184372088832) (hK:∀w',gJ w' w.heap.size (List.replicate n 0)->β w w'->w.heap.size<w'.heap.size->wpList prog ops Q rest (a.put o.dst (.slice (some ⟨w.heap.size,0,none⟩) n n)) w') :
  wpList prog ops Q (o::rest) a w:=by
 obtain⟨i,hi,ad,ae,af⟩:=CF Kh;refine wpList_make_full w hg l c t ac w.heap.size 3 i (.int .i64 0) 1 ht hi ad ae .i64 .i64 L C n hl hc hL hC (by rw[af];omega) (by unfold maxLen;omega) (Af _) fun w' aa b=>?_
 have ab:gJ w' w.heap.size (List.replicate n 0):=by
  refine OU (base:=w.heap.size) (n:=n) ?_;rw[Oq]
  have e:(madeCells (Value.int IntKind.i64 0).cells (n*1)).toList=List.replicate n (Value.int .i64 0):=by
   rw[DS];exact EL _ _
  rw[e]at aa;exact aa
 exact hK w' ab ⟨b.os,b.tape,b.output,b.size,fun k hk=>b.block k hk σ⟩ ab.lt
theorem TU {rest:List Oper} {o:Oper} {a:Act} {Q:Exit->Act->World->Prop} (af:o.guard=none) (d s:Operand) (dT sT:TypeId) (ho:o.op=.call {callee:=.builtin .copy,args:=#[d,s],argTypes:=#[dT,sT]}) (ht:prog.underlying dT=some (.slice 3)) (g n cd m cs B:Nat) (A:Option Addr) (ls zs:List Int) (hd:a.eval d=.slice (some ⟨g,0,none⟩) n cd) (hs:a.eval s=.slice A m cs) (hn:n=ls.length) (hm:m=zs.length) (hu:gJ w g ls) (hr:gg w B A zs) (ad:zs.length<=ls.length) (hK:∀w',gJ w' g (zs++ls.drop zs.length)->w.grownBy w' (some g)->wpList prog ops Q rest (a.put o.dst (goInt zs.length)) w') :
  wpList prog ops Q (o::rest) a w:=by
 obtain⟨i,hi,ai,ag,aj⟩:=CF Kh;have ae:(prog.info? 3).map (·.size)=some 1:=by rw[hi];simp[ag]
 subst hn hm
 have aa:∃w',(Builtin.copy_ #[dT,sT] o.type #[.slice (some ⟨g,0,none⟩) ls.length cd,.slice A zs.length cs]).run prog w=.ok (goInt zs.length) w'/\gJ w' g (zs++ls.drop zs.length)/\w.grownBy w' (some g):=by
  by_cases h0:zs.length=0
  ·refine⟨w,?_,?_,AO _ _⟩
   ·rw[run_copy_none (P:=prog) w dT sT o.type 3 _ A ls.length cd zs.length cs ht ae (by rw[h0];exact Nat.zero_min _),h0];rfl
   ·obtain rfl:=BI h0
    simpa using hu
  ·obtain⟨g',o',rfl,_,hc⟩:=hr h0
   have ab:=run_copy_row (P:=prog) w dT sT o.type 3 g 0 ls.length cd ⟨g',o',none⟩ zs.length cs _ _ (zs.map (Value.int .i64)) ht ae hu (by rw[Bh];exact(Eb ad).symm)
    (fun j v hj=>by
     have ac:j<zs.length:=by have:=(Bk.1 hj).1;simpa using this
     have e:((⟨g',o',none⟩:Addr).add j)=⟨g',o'+j,none⟩:=by unfold Addr.add;by_cases h0:j=0 <;> simp[h0]
     rw[e,hc j ac];rw[BO,AH ac]at hj;rw[L.fy ac];simpa using hj)
    (by simpa using ad) (by intro v hv;obtain⟨z,_,rfl⟩:=Bo.1 hv;rfl)
   rw[Bh]at ab;refine⟨_,ab,?_,Kz w g _⟩;unfold gJ;rw[setRow_heap w g _ _ _ _ hu];simp
 obtain⟨w',aa,h1,h2⟩:=aa;refine E5 af fun K ah=>?_;unfold Oper.wp;simp[execOp,ho,resolve,invoke,builtin,hd,hs,aa,Result.andThen];exact ah _ _ (hK w' h1 h2)
theorem yA {rest:List Oper} {o:Oper} {a:Act} {Q:Exit->Act->World->Prop} (ac:o.guard=none) (s x:Operand) (t:TypeId) (ho:o.op=.call {callee:=.builtin .append,args:=#[s,x],argTypes:=#[t,t]}) (ht:prog.underlying t=some (.slice 3)) (base:Nat) (v:Value) (xs:List Int) (hs:a.eval s=v) (ab:aV w base v xs) (g c:Nat) (z:Int) (hx:a.eval x=.slice (some ⟨g,0,none⟩) 1 c) (hz:w.cell? ⟨g,0,none⟩=some (.int .i64 z)) (ad:xs.length<=1000000000000) (aa:base<=w.heap.size) (hK:∀v' w',aV w' base v' (xs++[z])->w.grownBy w' v.ownBlock->wpList prog ops Q rest (a.put o.dst v') w') :
  wpList prog ops Q (o::rest) a w:=by
 obtain⟨i,hi,ae,af,ag⟩:=CF Kh;refine Dp w ac s x t ho base 3 i (.int .i64 0) 1 8 ht hi ae af ag rfl δ v xs.length (xs.map (Value.int .i64)) hs ab ⟨g,0,none⟩ 1 c [.int .i64 z] hx rfl ?_ ?_ (by unfold maxLen;omega) ω aa fun v' w' h1 h2 _=>hK v' w' ?_ h2
 ·intro j u hj
  match j,hj with
  | 0,hj=>simp at hj;subst hj;simpa[Addr.add] using hz
  | j+1,hj=>simp at hj
 ·intro u hu;simp at hu;subst hu;rfl
 ·unfold aV;rw[AZ,Bi];exact h1
theorem KC {a:World} {xs:List Int} (h:Below B a w) (ho:aV w B v xs) (hg:w.grownBy w' v.ownBlock) (hs:B<=w.heap.size):Below B a w' :=
 h.grown hg hs (fun k e=>(Br ho k e).1)
def ij (w:World) (B:Nat) (A:Option Addr) (zs:List Int):Prop :=
 zs.length≠0->∃g o,A=some ⟨g,o,none⟩/\g<B/\∀j,j<zs.length->w.cell? ⟨g,o+j,none⟩=some (.int .u8 (zs.getD j 0))
theorem ij.nil (w:World) (B:Nat) (A:Option Addr):ij w B A []:=fun h=>absurd rfl h
theorem ij.fp (h:ij w B A zs) (hk:∀g o,g<B->w'.cell? ⟨g,o,none⟩=w.cell? ⟨g,o,none⟩):ij w' B A zs:=fun hn=>by
 obtain⟨g,o,e,hg,hc⟩:=h hn;exact⟨g,o,e,hg,fun j hj=>(hk _ _ hg).trans (hc j hj)⟩
theorem ij.more (h:ij w B A zs) (hB:B<=B'):ij w B' A zs:=fun hn=>by
 obtain⟨g,o,e,hg,hc⟩:=h hn;exact⟨g,o,e,ω,hc⟩
theorem ij.below (h:ij w B A zs) (hb:Below B' w w') (hB:B<=B'):ij w' B A zs :=
 h.fp fun g o hg=>hb.cell (p:=⟨g,o,none⟩) (Aj hg hB)
theorem ij.up (h:ij w w.heap.size A zs) (hb:β w w'):ij w' w'.heap.size A zs:=(h.below hb (Af _)).more hb.size
theorem ij.drewN (h:ij w B A zs) (n:Nat):ij (w.drewN n) B A zs:=h
theorem ij.drew (h:ij w B A zs):ij w.drew B A zs:=h
theorem ij.alloc (h:ij w B A zs) (hB:B<=w.heap.size) (o:Obj):ij (w.alloc o) B A zs :=
 h.fp fun g i hg=>EH w o ⟨g,i,none⟩ (Aj hg hB)
theorem ij.grown (h:ij w B A zs) (hg:w.grownBy w' (some g)) (hB:B<=g) (hs:B<=w.heap.size):ij w' B A zs :=
 h.fp fun p o hp=>Ck (hg.block p ω (fun e=>by injection e with e;omega))
theorem ij.take {w:World} {B:Nat} {A:Option Addr} {zs:List Int} (h:ij w B A zs) (k:Nat):ij w B A (zs.take k):=fun hn=>by
 have hl:(zs.take k).length<=zs.length:=by rw[Bm];omega
 obtain⟨g,o,e,hg,hc⟩:=h ω;refine⟨g,o,e,hg,fun j hj=>?_⟩;rw[hc j ω,L.fy hj,L.fy (by omega:j<zs.length),Dn]
theorem ij.cell {o:Nat} (h:ij w B (some ⟨g,o,none⟩) zs) (j:Nat) (hj:j<zs.length):w.cell? ⟨g,o+j,none⟩=some (.int .u8 (zs.getD j 0)):=by
 obtain⟨g',o',e,_,hc⟩:=h ω;injection e with e;injection e with e1 e2;subst e1 e2;exact hc j hj
def jF (w:World) (g:Nat) (ls:List Int):Prop:=w.heap[g]?=some (.cells (ls.map (Value.int .u8)).toArray 5 (0,0))
theorem jF.lt (h:jF w g ls):g<w.heap.size:=by
 rcases BM g w.heap.size with aa|hge
 ·exact aa
 ·unfold jF at h;rw[Ev hge]at h;cases h
theorem jF.cell (h:jF w g ls) (i:Nat) (hi:i<ls.length):w.cell? ⟨g,i,none⟩=some (.int .u8 (ls.getD i 0)):=by
 rw[AF w g i _ _ _ h];simp[hi,List.getD]
theorem jF.frozen (h:jF w g ls) (i:Nat):w.frozen? ⟨g,i,none⟩=false:=AM w g i _ _ h
theorem jF.new (w:World) (ls:List Int):jF (w.alloc (.cells (ls.map (Value.int .u8)).toArray 5)) w.heap.size ls:=AI w _
theorem jF.drewN (h:jF w g ls) (n:Nat):jF (w.drewN n) g ls:=h
theorem jF.drew (h:jF w g ls):jF w.drew g ls:=h
theorem jF.alloc (h:jF w g ls) (o:Obj):jF (w.alloc o) g ls:=(BD w o g h.lt).trans h
theorem jF.ky (h:jF w g ls) (i:Nat) (z:Int):jF (w.setCell ⟨g,i,none⟩ (.int .u8 z)) g (ls.set i z):=by
 unfold jF at h ⊢;rw[Ba w g i _ _ _ h]
 congr 2
 apply EI;simp[Cy]
theorem jF.jv (h:jF w g ls) (hp:g≠p.block) (u:Value):jF (w.setCell p u) g ls:=(AQ w p u g hp).trans h
theorem jF.below (h:jF w g ls) (hb:Below B w w') (hg:g<B):jF w' g ls:=(hb.block g hg).trans h
theorem jF.grown {row:Option Nat} (h:jF w g ls) (hb:w.grownBy w' row) (hg:some g≠row):jF w' g ls:=(hb.block g h.lt hg).trans h
theorem jF.Fq {o:Nat} {pre xs post:List Int} (h:jF w g (pre++xs++post)) (ho:o=pre.length) (k:Nat) (hk:k<xs.length):w.cell? ⟨g,o+k,none⟩=some (.int .u8 (xs.getD k 0)):=by
 rw[h.cell (o+k) (by simp;omega),ho,L.jS pre xs post k hk]
theorem jF.rd (h:jF w g ls) (o n:Nat) (hn:o+n<=ls.length) (hB:g<B):ij w B (some ⟨g,o,none⟩) ((ls.drop o).take n):=fun _=>by
 refine⟨g,o,rfl,hB,fun j hj=>?_⟩;have aa:j<n:=by rw[Bm]at hj;omega
 rw[h.cell (o+j) ω,L.fy hj,L.fy (by omega:o+j<ls.length),Dn,Dy]
theorem jF.p7 (h:jF w g ls) (hB:g<B):ij w B (some ⟨g,0,none⟩) ls:=by
 have:=h.rd 0 ls.length ω hB;simpa using this
theorem Vr:(prog.info? 5).map (fun i=>(i.zero,i.size,i.bytes))=some (some (.int .u8 0),1,1):=κ
def G1 (ls:List Int):Obj:=.cells (ls.map (Value.int .u8)).toArray 5
theorem UL (w:World) (b:List Int):ij (w.alloc (G1 b)) (w.alloc (G1 b)).heap.size (some ⟨w.heap.size,0,none⟩) b/\Below w.heap.size w (w.alloc (G1 b)) :=
 ⟨(jF.new w b).p7 σ,(AB _ _).alloc (Af _) _⟩
def bW (w:World) (base:Nat) (v:Value) (xs:List Int):Prop:=w.ownsRow base 5 1 v xs.length (xs.map (Value.int .u8))
theorem bW.nil (w:World) (base:Nat):bW w base (.slice none 0 0) []:=Dg w base _ _
theorem bW.alloc {xs:List Int} (h:bW w base v xs) (o:Obj):bW (w.alloc o) base v xs:=Dm h o
theorem bW.drewN {xs:List Int} (h:bW w base v xs) (n:Nat):bW (w.drewN n) base v xs:=h
theorem bW.below {xs:List Int} (h:bW w base v xs) (hb:Below B w w') (hB:w.heap.size<=B):bW w' base v xs:=by
 refine⟨h.1,?_⟩;rcases h.2 with h0|⟨g,cap,cur,e,aa,hg,hr⟩
 ·exact .inl h0
 ·exact .inr ⟨g,cap,cur,e,aa,(hb.block g (Aj (Ad.1 hg).1 hB)).trans hg,hr⟩
theorem bW.form {xs:List Int} (h:bW w base v xs):∃A c,v=.slice A xs.length c/\xs.length<=c/\c<=maxLen/\ij w w.heap.size A xs:=by
 rcases h.2 with⟨rfl,h0⟩|⟨g,cap,cur,rfl,hb,hg,hn,hm,hs,ht⟩
 ·exact⟨none,0,by rw[h0],ω,by unfold maxLen;omega,fun hc=>absurd h0 hc⟩
 ·refine⟨some ⟨g,0,none⟩,cap,rfl,hn,hm,fun _=>⟨g,0,rfl,?_,fun j hj=>?_⟩⟩
  ·exact(Ad.1 hg).1
  ·have hc:=CQ h (g:=g) rfl j (.int .u8 (xs.getD j 0)) (by simp[hj,List.getD]);have e:((⟨g,0,none⟩:Addr).add j)=⟨g,0+j,none⟩:=by unfold Addr.add;by_cases h0:j=0 <;> simp[h0]
   rw[e]at hc;exact hc
theorem bW.mono {xs:List Int} (h:bW w base v xs) (hb:base'<=base):bW w base' v xs:=by
 refine⟨h.1,?_⟩;rcases h.2 with h0|⟨g,cap,cur,e,aa,hr⟩
 ·exact .inl h0
 ·exact .inr ⟨g,cap,cur,e,ω,hr⟩
theorem bW.addr {xs:List Int} (h:bW w base v xs) (h0:xs.length≠0):∃g c,v=.slice (some ⟨g,0,none⟩) xs.length c/\xs.length<=c/\c<=maxLen/\base<=g:=by
 rcases h.2 with⟨_,h1⟩|⟨g,cap,cur,rfl,hb,hg,hn,hm,hs,ht⟩
 ·exact absurd h1 h0
 ·exact⟨g,cap,rfl,hn,hm,hb⟩
theorem bW.cellAt {c:Nat} {xs:List Int} (h:bW w base (.slice (some ⟨g,0,none⟩) n c) xs) (hn:n=xs.length) (j:Nat) (hj:j<xs.length):w.cell? ⟨g,j,none⟩=some (.int .u8 (xs.getD j 0)):=by
 subst hn;rw[EK h j ω];simp[hj,List.getD]
theorem bW.stored {c:Nat} {xs:List Int} (h:bW w base (.slice (some ⟨g,0,none⟩) n c) xs) (hn:n=xs.length) (j:Nat) (z:Int):bW (w.setCell ⟨g,j,none⟩ (.int .u8 z)) base (.slice (some ⟨g,0,none⟩) n c) (xs.set j z):=by
 subst hn
 have:=(DR h j (.int .u8 z)).1
 unfold bW;rw[CE,Cy];exact this
theorem RZ {rest:List Oper} {o:Oper} {a:Act} {Q:Exit->Act->World->Prop} (af:o.guard=none) (s x:Operand) (t:TypeId) (ho:o.op=.call {callee:=.builtin .append,args:=#[s,x],argTypes:=#[t,t]}) (ht:prog.underlying t=some (.slice 5)) (base:Nat) (v:Value) (xs:List Int) (hs:a.eval s=v) (aa:bW w base v xs) (B m c:Nat) (A:Option Addr) (zs:List Int) (hx:a.eval x=.slice A m c) (hm:m=zs.length) (hr:ij w B A zs) (ag:xs.length+zs.length<=1000000000000) (ab:base<=w.heap.size) (hK:∀v' w',bW w' base v' (xs++zs)->w.grownBy w' v.ownBlock->wpList prog ops Q rest (a.put o.dst v') w') :
  wpList prog ops Q (o::rest) a w:=by
 obtain⟨i,hi,ah,ai,aj⟩:=CF Vr;subst hm;rcases A with _|ad
 ·have hz:zs=[]:=by
   rcases Di zs.length with h0|h0
   ·exact BI h0
   ·obtain⟨g,o',h,_⟩:=hr ω;cases h
  subst hz;have ac:=Fx (P:=prog) w base t o.type 5 i 1 ht hi v xs.length _ aa c;refine E5 af fun K ak=>?_;unfold Oper.wp;simp[execOp,ho,resolve,invoke,builtin,hs,hx,ac,Result.andThen];exact ak _ _ (hK v w (by simpa using aa) (AO _ _))
 ·refine Dp w af s x t ho base 5 i (.int .u8 0) 1 1 ht hi ah ai aj rfl δ v xs.length (xs.map (Value.int .u8)) hs aa ad zs.length c (zs.map (Value.int .u8)) hx σ ?_ ?_ (by unfold maxLen;omega) ω ab fun v' w' h1 h2 _=>hK v' w' ?_ h2
  ·intro j u hj;have ae:j<zs.length:=by have:=(Bk.1 hj).1;simpa using this
   obtain⟨g,o',h,_,hc⟩:=hr ω
   replace h:=DG h
   subst h;have e:((⟨g,o',none⟩:Addr).add j)=⟨g,o'+j,none⟩:=by unfold Addr.add;by_cases h0:j=0 <;> simp[h0]
   rw[e,hc j ae];rw[BO,AH ae]at hj;rw[L.fy ae];simpa using hj
  ·intro u hu;obtain⟨z,_,rfl⟩:=Bo.1 hu;rfl
  ·unfold bW;rw[AZ,Bi];exact h1
end Go.Proofs.YtjjbaehamplnaaaGreat
namespace Go.Proofs.YtjjbaehamplnaaaGreat
namespace K
def Bytes (l:List Int):Prop:=∀z∈l,0<=z/\z<256
theorem Bytes.nil:Bytes []:=by simp[Bytes]
theorem Bytes.tl (h:Bytes (z::r)):Bytes r:=fun x hx=>h x (Bq _ hx)
theorem Bytes.hd (h:Bytes (z::r)):0<=z/\z<256:=h z (Bn ..)
theorem Bytes.app {m:List Int} (h:Bytes l) (k:Bytes m):Bytes (l++m):=fun z hz=>by
 rcases Bs.1 hz with h1|h1
 ·exact h z h1
 ·exact k z h1
theorem Bytes.take (h:Bytes l) (k:Nat):Bytes (l.take k):=fun z hz=>h z (EM hz)
theorem Bytes.drop (h:Bytes l) (k:Nat):Bytes (l.drop k):=fun z hz=>h z (C7 hz)
theorem Bytes.getD (h:Bytes l) (k:Nat):0<=l.getD k 0/\l.getD k 0<256:=by
 by_cases hk:k<l.length
 ·rw[L.fy hk];exact h _ (AD hk)
 ·rw[L.Gd ω];omega
theorem Bytes.set (h:Bytes l) (k:Nat) (h1:0<=z) (h2:z<256):Bytes (l.set k z):=fun x hx=>by
 rcases DI hx with h3|h3
 ·exact h x h3
 ·subst h3;exact⟨h1,h2⟩
end K
theorem ij.drop {w:World} {B:Nat} {g o:Nat} {zs:List Int} (h:ij w B (some ⟨g,o,none⟩) zs) (k:Nat):ij w B (some ⟨g,o+k,none⟩) (zs.drop k):=fun hn=>by
 have hl:(zs.drop k).length=zs.length-k:=by rw[Bt]
 obtain⟨g',o',e,hg,hc⟩:=h ω;injection e with e;injection e with e1 e2;subst e1 e2;refine⟨g,o+k,rfl,hg,fun j hj=>?_⟩;rw[show o+k+j=o+(k+j) by omega,hc (k+j) ω,L.fy hj,L.fy (by omega:k+j<zs.length),Dy]
def K.bytes (l:List Int):List UInt8:=l.map fun z=>UInt8.ofNat z.toNat
def K.str (l:List Int):ByteArray:=⟨(K.bytes l).toArray⟩
theorem K.jP (h:K.Bytes l) (j:Nat) (hj:j<(K.bytes l).length):(((K.bytes l)[j]).toNat:Int)=l.getD j 0:=by
 have aa:j<l.length:=by simpa[K.bytes] using hj
 have hb:=h.getD j;rw[L.fy aa]at hb ⊢;simp only[K.bytes,Cg];generalize l[j]=z at *
 have:(UInt8.ofNat z.toNat).toNat=z.toNat:=by simp[UInt8.toNat_ofNat'];omega
 rw[this];omega
theorem K.bytes_inj {m:List Int} (hl:K.Bytes l) (hm:K.Bytes m) (h:K.bytes l=K.bytes m):l=m:=by
 have aa:l.length=m.length:=by have:=congrArg List.length h;simpa[K.bytes] using this
 refine L.uj aa fun i hi=>?_;have h1:=K.jP hl i (by simpa[K.bytes] using hi);have h2:=K.jP hm i (by simpa[K.bytes] using(aa▸hi));rw[<-h1,<-h2];simp only[h]
theorem K.zJ {m:List Int} (hl:K.Bytes l) (hm:K.Bytes m):(K.str l=K.str m)↔l=m:=by
 constructor
 ·intro h;refine K.bytes_inj hl hm ?_
  have:=congrArg (fun s:ByteArray=>s.data.toList) h
  simpa[K.str] using this
 ·rintro rfl;rfl
theorem GS (h:ij w B A l) (hl:K.Bytes l) (c:Nat) :
  (convert 72 9 (.slice A l.length c)).run prog w=.ok (.string (K.str l)) w:=by
 have aa:(K.bytes l).length=l.length:=by simp[K.bytes]
 rcases Di l.length with h0|h0
 ·have hn:=BI h0;subst hn;rw[run_convert_bytes_string w _ _ 5 A _ c underlying72 underlying5 underlying9];rcases A with _|ad
  ·rfl
  ·rw[run_bytesToString w ad [].length c [] ε];rfl
 ·obtain⟨g,o,rfl,_,hc⟩:=h ω;rw[<-aa];refine run_convert_bytes_back w _ _ 5 ⟨g,o,none⟩ c (K.bytes l) underlying72 underlying5 underlying9 fun j hj=>?_;have e:((⟨g,o,none⟩:Addr).add j)=⟨g,o+j,none⟩:=by unfold Addr.add;by_cases h0:j=0 <;> simp[h0]
  rw[e,hc j ω,K.jP hl j hj]
theorem xV (l:List Int) (h:(l.all fun z=>decide (0<=z)&&decide (z<256))=true):K.Bytes l:=fun z hz=>by
 have:=B6.1 h z hz
 simpa using this
def xW (b:List Int):Obj:=.cells (b.map (Value.int .u8)).toArray 5 (b.length,b.length+1)
theorem I2 (w:World) (b:List Int):ij (w.alloc (xW b)) (w.alloc (xW b)).heap.size (some ⟨w.heap.size,0,none⟩) b/\Below w.heap.size w (w.alloc (xW b)):=by
 refine⟨fun _=>⟨w.heap.size,0,rfl,σ,fun j hj=>?_⟩,(AB _ _).alloc (Af _) _⟩
 have:=World.cell?_alloc_mark w (b.map (Value.int .u8)).toArray 5 (b.length,b.length+1) (0+j)
 unfold xW;rw[this];simp[hj,List.getD]
theorem Mf (w:World) (b:List Int) (n c:Nat):(convert 72 72 (.slice (some ⟨w.heap.size,0,none⟩) n c)).run prog (w.alloc (.cells (b.map (Value.int .u8)).toArray 5))=.ok (.slice (some ⟨w.heap.size,0,none⟩) n c) (w.alloc (xW b)):=by
 have hsh:(w.alloc (.cells (b.map (Value.int .u8)).toArray 5)).shape? w.heap.size=some (5,b.length):=by
  unfold World.shape?;rw[AI];simp
 have aa:(w.alloc (.cells (b.map (Value.int .u8)).toArray 5)).freeze ⟨w.heap.size,b.length,none⟩ 1=w.alloc (xW b):=by
  have hm:∀(a:Array Obj) (x:Obj) (f:Obj->Obj),(a.push x).modify a.size f=a.push (f x):=by
   intro a x f;apply Array.ext
   ·simp
   ·intro i h1 h2;simp only[Array.getElem_modify,Array.getElem_push];by_cases h:a.size=i
    ·subst h;simp
    ·have hi:i<a.size:=by simp at h1;omega
     simp[h,hi]
  unfold World.freeze;rw[AJ δ]
  show({w with heap:=(w.heap.push (.cells (b.map (Value.int .u8)).toArray 5)).modify w.heap.size _}:World)=_
  rw[hm];rfl
 simp[convert,Dc underlying72,Dc underlying5,markStringish,hsh];exact aa
def K.Tx (l:List Int):Prop:=K.Bytes l/\l.length<=9223372036854775807
namespace Gm
structure Tm where
 nm:List Int
 lv:Int
 wy:Int
structure Rl where
 l:Int
 r:List Int
 p:Int
structure Gr where
 ts:List Tm
 ns:List (List Int)
 rs:List Rl
 st:Int
def In (z:Int):Prop:=-9223372036854775808<=z/\z<=9223372036854775807
structure Fit (G:Gr):Prop where
 t:∀x∈G.ts,K.Tx x.nm/\In x.lv/\In x.wy
 n:∀x∈G.ns,K.Tx x
 r:∀x∈G.rs,In x.l/\In x.p/\∀z∈x.r,In z
 s:In G.st
end Gm
def rO (w:World) (B:Nat) (A:Option Addr) (ts:List Gm.Tm):Prop :=
 ts.length≠0->∃g o,A=some ⟨g,o,none⟩/\g<B/\∀i (h:i<ts.length),w.cell? ⟨g,o+i*3,none⟩=some (.string (K.str ts[i].nm))/\w.cell? ⟨g,o+i*3+1,none⟩=some (.int .i64 ts[i].lv)/\w.cell? ⟨g,o+i*3+2,none⟩=some (.int .i64 ts[i].wy)
def tW (w:World) (B:Nat) (A:Option Addr) (ns:List (List Int)):Prop :=
 ns.length≠0->∃g o,A=some ⟨g,o,none⟩/\g<B/\∀i (h:i<ns.length),w.cell? ⟨g,o+i,none⟩=some (.string (K.str ns[i]))
def qL (w:World) (B:Nat) (A:Option Addr) (rs:List Gm.Rl):Prop :=
 rs.length≠0->∃g o,A=some ⟨g,o,none⟩/\g<B/\∀i (h:i<rs.length),w.cell? ⟨g,o+i*3,none⟩=some (.int .i64 rs[i].l)/\(∃A' c',w.cell? ⟨g,o+i*3+1,none⟩=some (.slice A' rs[i].r.length c')/\rs[i].r.length<=c'/\c'<=9223372036854775807/\gg w B A' rs[i].r)/\w.cell? ⟨g,o+i*3+2,none⟩=some (.int .i64 rs[i].p)
def aT (w:World) (B:Nat) (v:Value) (G:Gm.Gr):Prop :=
 ∃AT cT AN cN AR cR,v=.agg #[.slice AT G.ts.length cT,.slice AN G.ns.length cN,.slice AR G.rs.length cR,.int .i64 G.st]/\(G.ts.length<=cT/\cT<=9223372036854775807)/\(G.ns.length<=cN/\cN<=9223372036854775807)/\(G.rs.length<=cR/\cR<=9223372036854775807)/\rO w B AT G.ts/\tW w B AN G.ns/\qL w B AR G.rs
theorem rO.fp {ts:List Gm.Tm} (h:rO w B A ts) (hk:∀g o,g<B->w'.cell? ⟨g,o,none⟩=w.cell? ⟨g,o,none⟩):rO w' B A ts:=fun hn=>by
 obtain⟨g,o,e,hg,hc⟩:=h hn;exact⟨g,o,e,hg,fun i hi=>⟨(hk _ _ hg).trans (hc i hi).1,(hk _ _ hg).trans (hc i hi).2.1,(hk _ _ hg).trans (hc i hi).2.2⟩⟩
theorem tW.fp (h:tW w B A ns) (hk:∀g o,g<B->w'.cell? ⟨g,o,none⟩=w.cell? ⟨g,o,none⟩):tW w' B A ns:=fun hn=>by
 obtain⟨g,o,e,hg,hc⟩:=h hn;exact⟨g,o,e,hg,fun i hi=>(hk _ _ hg).trans (hc i hi)⟩
theorem qL.fp {w w':World} {B:Nat} {A:Option Addr} {rs:List Gm.Rl} (h:qL w B A rs) (hk:∀g o,g<B->w'.cell? ⟨g,o,none⟩=w.cell? ⟨g,o,none⟩):qL w' B A rs:=fun hn=>by
 obtain⟨g,o,e,hg,hc⟩:=h hn;refine⟨g,o,e,hg,fun i hi=>?_⟩;obtain⟨h1,⟨A',c',h2,h3,h4,h5⟩,h6⟩:=hc i hi;exact⟨(hk _ _ hg).trans h1,⟨A',c',(hk _ _ hg).trans h2,h3,h4,h5.fp hk⟩,(hk _ _ hg).trans h6⟩
theorem aT.fp {w w':World} {B:Nat} {v:Value} {G:Gm.Gr} (h:aT w B v G) (hk:∀g o,g<B->w'.cell? ⟨g,o,none⟩=w.cell? ⟨g,o,none⟩):aT w' B v G:=by
 obtain⟨AT,cT,AN,cN,AR,cR,e,h1,h2,h3,h4,h5,h6⟩:=h;exact⟨AT,cT,AN,cN,AR,cR,e,h1,h2,h3,h4.fp hk,h5.fp hk,h6.fp hk⟩
theorem aT.below {G:Gm.Gr} (h:aT w B v G) (hb:Below B' w w') (hB:B<=B'):aT w' B v G :=
 h.fp fun g o hg=>hb.cell (p:=⟨g,o,none⟩) (Aj hg hB)
theorem rO.more {ts:List Gm.Tm} (h:rO w B A ts) (hB:B<=B'):rO w B' A ts:=fun hn=>by
 obtain⟨g,o,e,hg,hc⟩:=h hn;exact⟨g,o,e,ω,hc⟩
theorem tW.more {ss:List (List Int)} (h:tW w B A ss) (hB:B<=B'):tW w B' A ss:=fun hn=>by
 obtain⟨g,o,e,hg,hc⟩:=h hn;exact⟨g,o,e,ω,hc⟩
theorem qL.more {w:World} {B B':Nat} {A:Option Addr} {rs:List Gm.Rl} (h:qL w B A rs) (hB:B<=B'):qL w B' A rs:=fun hn=>by
 obtain⟨g,o,e,hg,hc⟩:=h hn;refine⟨g,o,e,ω,fun i hi=>?_⟩;obtain⟨h1,⟨A',c',h2,h3,h4,h5⟩,h6⟩:=hc i hi;exact⟨h1,⟨A',c',h2,h3,h4,h5.more hB⟩,h6⟩
theorem aT.more {w:World} {B B':Nat} {v:Value} {G:Gm.Gr} (h:aT w B v G) (hB:B<=B'):aT w B' v G:=by
 obtain⟨AT,cT,AN,cN,AR,cR,e,h1,h2,h3,h4,h5,h6⟩:=h;exact⟨AT,cT,AN,cN,AR,cR,e,h1,h2,h3,h4.more hB,h5.more hB,h6.more hB⟩
theorem aT.up {G:Gm.Gr} (h:aT w w.heap.size v G) (hb:β w w'):aT w' w'.heap.size v G:=(h.below hb (Af _)).more hb.size
theorem aT.drewN {G:Gm.Gr} (h:aT w B v G) (n:Nat):aT (w.drewN n) B v G:=h
theorem K.jI (s:ByteArray) (hs:s.size<=maxLen):∃l,K.Tx l/\s=K.str l:=by
 refine⟨s.data.toList.map fun b=>(b.toNat:Int),⟨?_,by rw[Bh];unfold maxLen at hs;exact hs⟩,?_⟩
 ·intro z hz;obtain⟨b,_,rfl⟩:=Bo.1 hz
  have:=b.toNat_lt
  omega
 ·unfold K.str K.bytes;rw[Ee]
  have:((fun z:Int=>UInt8.ofNat z.toNat)∘fun b:UInt8=>(b.toNat:Int))=id:=by
   funext b;simp
  rw[this];simp
theorem JO {α:Type} (n:Nat) (p:Nat->α->Prop) (h:∀i,i<n->∃a,p i a):∃l:List α,l.length=n/\∀i (hi:i<l.length),p i l[i]:=by
 induction n with
 | zero=>exact⟨[],rfl,fun i hi=>by simp at hi⟩
 | succ n ih =>
  obtain⟨l,hl,hp⟩:=ih (fun i hi=>h i ω);obtain⟨a,ha⟩:=h n ω;refine⟨l++[a],by simp[hl],fun i hi=>?_⟩;rcases BM i l.length with h1|h1
  ·rw[Cv h1];exact hp i h1
  ·have:i=l.length:=by simp at hi;omega
   subst this;simp only[List.getElem_concat_length];rw[hl];exact ha
namespace T
def small (z:Int):Bool:=decide (97<=z)&&decide (z<=122)
def head (z:Int):Bool:=small z||(decide (65<=z)&&decide (z<=90))||z==95
def tail (z:Int):Bool:=(decide (48<=z)&&decide (z<=57))||z==46
def fB (z:Int):Bool:=head z||tail z
def run (p:Int->Bool):List Int->Nat
 | []=>0
 | z::r=>if p z then run p r+1 else 0
def ie:List Int->Nat
 | []=>0
 | z::r=>if head z then run fB r+1 else 0
def isName (l:List Int):Bool:=decide (l.length<=20)&&(decide (l.length≠0)&&decide (ie l=l.length))
def gD (l:List Int):Bool:=l==[92,110]||l==[92,116]||l==[92,92]||l==[92,39]||(match l with | [z]=>decide (32<=z)&&decide (z<=126)&&(z != 39)&&(z != 92)|_=>false)
def isLit:List Int->Bool
 | [a,b,c]=>a==39&&c==39&&decide (32<=b)&&decide (b<=126)&&(b != 39)&&(b != 92)
 | [a,b,c,d]=>a==39&&d==39&&b==92&&(c==110||c==116||c==92||c==39)
 | _=>false
theorem ik (z:Int) (r:List Int):ie (z::r)=if head z then run fB r+1 else 0:=rfl
theorem oQ (p:Int->Bool) (l:List Int):run p l<=l.length:=by
 induction l with
 | nil=>simp[run]
 | cons z r ih=>unfold run;split <;> simp <;> omega
theorem Sq (l:List Int):ie l<=l.length:=by
 cases l with
 | nil=>simp[ie]
 | cons z r=>rw[ik];have:=oQ fB r;split <;> simp <;> omega
theorem mV (p:Int->Bool) (l:List Int) (k:Nat) (h:k<l.length):run p (l.drop k)=if p (l.getD k 0) then run p (l.drop (k+1))+1 else 0:=by
 rw[L.fP l k h];rfl
theorem kh (p:Int->Bool) (l:List Int) (k:Nat) (h:l.length<=k):run p (l.drop k)=0:=by
 rw[Cb h];rfl
theorem pV (l:List Int) (h:0<l.length):ie l=if head (l.getD 0 0) then run fB (l.drop 1)+1 else 0:=by
 cases l with
 | nil=>simp at h
 | cons z r=>rfl
theorem Ra (p:Int->Bool) (l:List Int):run p l=l.length ↔ ∀j,j<l.length->p (l.getD j 0)=true:=by
 induction l with
 | nil=>simp[run]
 | cons z r ih =>
  unfold run
  constructor
  ·intro h j hj;by_cases hz:p z=true
   ·rw[Az hz]at h;simp at h;cases j with
    | zero=>simpa using hz
    | succ j=>have:=ih.1 h j (by simp at hj;omega);simpa using this
   ·rw[AJ hz]at h;simp at h
  ·intro h;have h0:=h 0 σ
   have:p z=true:=by simpa using h0
   rw[Az this]
   have:=ih.2 (fun j hj=>by have:=h (j+1) (by simp;omega);simpa using this)
   simp[this]
theorem Q9 (p:Int->Bool) (l:List Int) (k:Nat) (h:k<=run p l):run p (l.take k)=k:=by
 induction l generalizing k with
 | nil=>simp[run]at h;subst h;rfl
 | cons z r ih =>
  cases k with
  | zero=>rfl
  | succ k =>
   unfold run at h;by_cases hz:p z=true
   ·rw[Az hz]at h;simp only[List.take_succ_cons];unfold run;rw[Az hz,ih k ω]
   ·rw[AJ hz]at h;omega
theorem PT (l:List Int) (k:Nat) (h:k<=ie l):ie (l.take k)=k:=by
 cases l with
 | nil=>simp[ie]at h;subst h;rfl
 | cons z r =>
  cases k with
  | zero=>rfl
  | succ k =>
   rw[ik]at h;by_cases hz:head z=true
   ·rw[Az hz]at h;simp only[List.take_succ_cons];rw[ik,Az hz,Q9 _ _ _ ω]
   ·rw[AJ hz]at h;omega
theorem mJ (l:List Int):isName l=(decide (l.length≠0)&&decide (l.length<=20)&&head (l.getD 0 0)&&decide (∀j,j<l.length->fB (l.getD j 0)=true)):=by
 cases l with
 | nil=>simp[isName]
 | cons z r =>
  rw[Bx];have hr:=Ra fB r;unfold isName;simp only[Bd,Bj]
  constructor
  ·rintro⟨h1,h2,h3⟩;rw[ik]at h3;by_cases hz:head z=true
   ·rw[Az hz]at h3;refine⟨⟨⟨σ,h1⟩,by simpa using hz⟩,fun j hj=>?_⟩;cases j with
    | zero=>simp[fB,hz]
    | succ j =>
     have:=hr.1 (by simpa using h3) j (by simp at hj;omega)
     simpa using this
   ·rw[AJ hz]at h3;simp at h3
  ·rintro⟨⟨⟨h1,h2⟩,h3⟩,h4⟩;refine⟨h2,σ,?_⟩;rw[ik,Az (by simpa using h3)]
   have:=hr.2 (fun j hj=>by have:=h4 (j+1) (by simp;omega);simpa using this)
   simp[this]
theorem iQ (h:isLit l=true):l.length=3\/l.length=4:=by
 unfold isLit at h;split at h
 ·left;rfl
 ·right;rfl
 ·cases h
theorem sY (m:List Int):isLit (39::(m++[39]))=gD m:=by
 match m with
 | []=>rfl
 | [b]=>simp[isLit,gD,Bool.and_assoc]
 | [b,c] =>
  by_cases h1:b=92
  ·subst h1;simp[isLit,gD]
  ·have:(b==92)=false:=by simpa using h1
   simp[isLit,gD,this]
 | b::c::d::r =>
  simp only[Ct]
  have:isLit (39::b::c::d::(r++[39]))=false:=by
   unfold isLit;cases r with
   | nil=>rfl
   | cons e r=>rfl
  rw[this];simp[gD]
theorem kH (l:List Int) (h:isLit l=true):∃m,l=39::(m++[39]):=by
 match l,h with
 | [a,b,c],h =>
  simp[isLit]at h;obtain⟨⟨⟨⟨⟨rfl,rfl⟩,_⟩,_⟩,_⟩,_⟩:=h;exact⟨[b],rfl⟩
 | [a,b,c,d],h =>
  simp[isLit]at h;obtain⟨⟨⟨rfl,rfl⟩,_⟩,_⟩:=h;exact⟨[b,c],rfl⟩
theorem pU (l:List Int) (h:isName l=true):isLit l=false:=by
 rcases hl:isLit l with _|_
 ·rfl
 ·obtain⟨m,rfl⟩:=kH l hl;rw[mJ]at h
  have:head 39=false:=δ
  simp[this]at h
def ix (l s:List Int):Int:=Lib.index (Lib.bytesOf l) (Lib.bytesOf s)
def pre (l s:List Int):Bool:=Lib.hasPrefix (Lib.bytesOf l) (Lib.bytesOf s)
abbrev P3:=Int×Nat×Int
def skip (l:List Int) (f:Nat) (s:List Int):P3:=if ix (l.drop f) s<0 then(0,0,4) else(0,f+(ix (l.drop f) s).toNat+s.length,0)
def line (l:List Int):List Int:=if 0<=ix l [10] then l.take (ix l [10]).toNat else l
def comment (l:List Int):P3:=if pre l [47,42] then skip l 2 [42,47] else if pre l [47,47] then(0,(line l).length,0) else(0,0,3)
def quoted (q:Int):List Int->Option Nat
 | []=>none
 | z::r=>if z=q then some 1 else if z=92 then(match r with | []=>none|_::r'=>(quoted q r').map (· + 2)) else(quoted q r).map (· + 1)
def jH (z o:Int):Int:=if z=123 then o+1 else if z=125 then o-1 else o
def act:Nat->List Int->Int->Option Nat
 | 0,_,_=>none
 | f+1,l,o=>match l with
  | []=>none
  | z::r=>if z=39\/z=34 then(match quoted z r with|none=>none|some n=>(act f (r.drop n) o).map (· + (n+1)))
   else if 0<jH z o then(act f r (jH z o)).map (· + 1) else some 1
def action (l:List Int):P3:=match act (l.length+1) l 0 with|none=>(0,0,4)|some n=>(0,n,0)
def iY (l:List Int):Int:=if l=[116,111,107,101,110] then 3 else if l=[108,101,102,116] then 4 else if l=[114,105,103,104,116] then 5 else if l=[110,111,110,97,115,115,111,99] then 6 else if l=[115,116,97,114,116] then 7 else if l=[112,114,101,99] then 8 else 0
def jV (l:List Int):Nat:=1+run small (l.drop 1)
def jA (l:List Int):P3:=if pre l [37,37] then(9,2,0) else if pre l [37,123] then skip l 2 [37,125] else if iY ((l.take (jV l)).drop 1)=0 then(0,0,3) else(iY ((l.take (jV l)).drop 1),jV l,0)
def literal (l:List Int):P3:=if isLit (l.take 3) then(2,3,0) else if isLit (l.take 4) then(2,4,0) else if isLit (l++[39])||isLit (l++[110,39]) then(0,0,4) else(0,0,3)
def name (l:List Int):P3:=if ie l=0 then(0,0,3) else if 20<ie l then(0,0,5) else(1,ie l,0)
def piece (l:List Int):P3 :=
 let z:=l.getD 0 0
 if z=32\/z=9\/z=10\/z=13 then(0,1,0) else if z=47 then comment l else if z=60 then skip (line l) 1 [62] else if z=123 then action l else if z=37 then jA l
 else if z=39 then literal l else if z=58 then(10,1,0) else if z=124 then(11,1,0) else if z=59 then(12,1,0) else name l
theorem Ho (l:List Int):(Lib.bytesOf l).length=l.length:=by simp[Lib.bytesOf]
theorem uv (l s:List Int):-1<=ix l s:=Lib.index_ge _ _
theorem ou (l s:List Int) (h:0<=ix l s):(ix l s).toNat+s.length<=l.length:=by
 have:=Lib.index_room _ _ h
 rw[Ho,Ho]at this;unfold ix at *;omega
theorem sr (l:List Int):(line l).length<=l.length:=by
 unfold line;split
 ·rw[Bm];omega
 ·exact Af _
theorem GW (l s:List Int) (h:pre l s=true):s.length<=l.length:=by
 have:=List.IsPrefix.length_le (List.isPrefixOf_iff_prefix.1 h)
 rwa [Ho,Ho]at this
theorem kf (q:Int):∀(l:List Int) (n:Nat),quoted q l=some n->1<=n/\n<=l.length
 | [],n,h=>by simp[quoted]at h
 | [z],n,h=>by
  unfold quoted at h;by_cases h1:z=q
  ·rw[Az h1]at h;simp at h;subst h;simp
  ·rw[AJ h1]at h;by_cases h2:z=92
   ·rw[Az h2]at h;simp at h
   ·rw[AJ h2]at h;simp[quoted]at h
 | z::y::r,n,h=>by
  unfold quoted at h;by_cases h1:z=q
  ·rw[Az h1]at h;simp at h;subst h;simp
  ·rw[AJ h1]at h;by_cases h2:z=92
   ·rw[Az h2]at h;simp only[Dk]at h;obtain⟨m,hm,rfl⟩:=h
    have:=kf q r m hm
    simp;omega
   ·rw[AJ h2]at h;rw[Dk]at h;obtain⟨m,hm,rfl⟩:=h
    have:=kf q (y::r) m hm
    simp at this ⊢;omega
theorem J3:∀(f:Nat) (l:List Int) (o:Int) (n:Nat),act f l o=some n->1<=n/\n<=l.length
 | 0,_,_,_,h=>by simp[act]at h
 | f+1,[],o,n,h=>by simp[act]at h
 | f+1,z::r,o,n,h=>by
  unfold act at h;simp only at h;split at h
  ·split at h
   ·cases h
   ·rename_i m hq
    rw[Dk]at h;obtain⟨k,hk,rfl⟩:=h;have h1:=J3 f _ _ _ hk;have h2:=kf z r m hq;rw[Bt]at h1
    simp;omega
  ·generalize jH z o=o' at h;by_cases h0:0<o'
   ·rw[Az h0,Dk]at h;obtain⟨k,hk,rfl⟩:=h;have h1:=J3 f _ _ _ hk
    simp;omega
   ·rw[AJ h0]at h;injection h with h;subst h;simp
def tU (l:List Int) (x:P3):Prop:=(x.2.2=0->1<=x.2.1/\x.2.1<=l.length/\(x.1=1->isName (l.take x.2.1)=true)/\(x.1=2->isLit (l.take x.2.1)=true))/\0<=x.1/\x.1<=12/\0<=x.2.2/\x.2.2<=5/\x.2.1<=l.length
theorem yD (l:List Int) (e:Int) (h:1<=e) (h2:e<=5):tU l (0,0,e):=by
 refine⟨fun h'=>?_,ω,ω,by simp;omega,by simpa using h2,σ⟩;simp at h';omega
theorem xT (l:List Int) (k:Int) (n:Nat) (h1:1<=n) (h2:n<=l.length) (h3:k≠1) (h4:k≠2) (h5:0<=k) (h6:k<=12):tU l (k,n,0) :=
 ⟨fun _=>⟨h1,h2,fun h=>absurd h h3,fun h=>absurd h h4⟩,h5,h6,σ,σ,h2⟩
theorem Jn (l m:List Int) (f:Nat) (s:List Int) (hm:m.length<=l.length) (hf:f<=m.length) (hs:1<=s.length):tU l (skip m f s):=by
 unfold skip;have h1:=uv (m.drop f) s;have h2:=ou (m.drop f) s;rw[Bt]at h2;split
 ·exact yD _ _ ω ω
 ·exact xT _ _ _ ω ω ω ω ω ω
theorem Su (l:List Int) (h:0<l.length) (hb:K.Bytes l) (hz:l.getD 0 0≠10):1<=(line l).length:=by
 unfold line;have hr:=ou l [10];split
 ·rename_i h0
  have:=hr h0
  rw[Bm]
  have aa:ix l [10]≠0:=by
   intro he;cases l with
   | nil=>simp at h
   | cons z r =>
    have ab:z≠10:=by simpa using hz
    have ac:=hb.hd;unfold ix at he;simp only[Lib.bytesOf,Bw,Dh]at he;unfold Lib.index at he
    have aa:([UInt8.ofNat (10:Int).toNat].isPrefixOf (UInt8.ofNat z.toNat::List.map (fun n=>UInt8.ofNat n.toNat) r))=false:=by
     simp only[List.isPrefixOf,Bool.and_true];rw[Bc];intro e
     have:=congrArg UInt8.toNat e
     simp at this;omega
    rw[aa]at he;simp at he;split at he
    ·cases he
    ·have:=Lib.index_ge (List.map (fun n=>UInt8.ofNat n.toNat) r) [10]
     omega
  omega
 ·omega
theorem nc (l:List Int):0<=iY l/\iY l<=8/\(iY l≠0->3<=iY l):=by
 unfold iY
 repeat' split
 all_goals omega
theorem Sc (l:List Int) (h:0<l.length):jV l<=l.length:=by
 unfold jV
 have:=oQ small (l.drop 1)
 rw[Bt]at this;omega
theorem mP (l:List Int) (h:0<l.length) (hb:K.Bytes l):tU l (piece l):=by
 unfold piece;simp only;have ab:=Su l h hb;have ac:=sr l;split
 ·exact xT _ _ _ ω ω ω ω ω ω
 split
 ·rename_i hz
  unfold comment;split
  ·rename_i hp
   have:=GW _ _ hp
   exact Jn l l 2 _ ω (by simpa using this) σ
  split
  ·exact xT _ _ _ (ab ω) ac ω ω ω ω
  ·exact yD _ _ ω ω
 split
 ·exact Jn l _ 1 _ ac (ab ω) σ
 split
 ·unfold action;split
  ·exact yD _ _ ω ω
  ·rename_i n hn
   have:=J3 _ _ _ _ hn
   exact xT _ _ _ this.1 this.2 ω ω ω ω
 split
 ·unfold jA;have hw:=nc ((l.take (jV l)).drop 1);split
  ·rename_i hp
   have:=GW _ _ hp
   exact xT _ _ _ ω (by simpa using this) ω ω ω ω
  split
  ·rename_i hp
   have:=GW _ _ hp
   exact Jn l l 2 _ ω (by simpa using this) σ
  split
  ·exact yD _ _ ω ω
  ·rename_i hk
   have h3:=hw.2.2 hk;exact xT _ _ _ (by unfold jV;omega) (Sc l h) ω ω ω ω
 split
 ·unfold literal;split
  ·rename_i hk
   have aa:=iQ hk;rw[Bm]at aa;exact⟨fun _=>⟨σ,by simp;omega,fun h=>by simp at h,fun _=>hk⟩,σ,σ,σ,σ,by simp;omega⟩
  split
  ·rename_i h3 hk
   have aa:=iQ hk;rw[Bm]at aa
   have h4:4<=l.length:=by
    rcases BM l.length 4 with h5|h5
    ·have e1:l.take 4=l:=Cq ω;have e2:l.take 3=l:=Cq ω;rw[e1]at hk;rw[e2]at h3;exact absurd hk h3
    ·exact h5
   exact⟨fun _=>⟨σ,by simp;omega,fun h=>by simp at h,fun _=>hk⟩,σ,σ,σ,σ,by simp;omega⟩
  split
  ·exact yD _ _ ω ω
  ·exact yD _ _ ω ω
 split
 ·exact xT _ _ _ ω ω ω ω ω ω
 split
 ·exact xT _ _ _ ω ω ω ω ω ω
 split
 ·exact xT _ _ _ ω ω ω ω ω ω
 ·unfold name;have hn:=Sq l;split
  ·exact yD _ _ ω ω
  split
  ·exact yD _ _ ω ω
  ·rename_i h1 h2
   refine⟨fun _=>⟨by simp;omega,by simpa using hn,fun _=>?_,fun h=>by simp at h⟩,σ,σ,σ,σ,by simpa using hn⟩;simp only;unfold isName;have e:min (ie l) l.length=ie l:=ω
   rw[PT l _ (Af _),Bm,e];simp only[Bd,Bj];exact⟨ω,ω,trivial⟩
end T
namespace Gm
def find:List (List Int)->List Int->Int
 | [],_=>-1
 | x::r,s=>if x=s then 0 else if find r s<0 then -1 else find r s+1
theorem sa (l:List (List Int)) (s:List Int):-1<=find l s:=by
 induction l with
 | nil=>unfold find;omega
 | cons x r ih=>unfold find;split;omega;split <;> omega
theorem j7 (l:List (List Int)) (s:List Int):find l s<l.length:=by
 induction l with
 | nil=>unfold find;simp
 | cons x r ih=>unfold find;simp only[Bz];split;omega;split <;> omega
theorem Fu {l:List (List Int)} {s:List Int}:find l s<0↔s ∉ l:=by
 induction l with
 | nil=>unfold find;simp
 | cons x r ih =>
  unfold find;by_cases hx:x=s
  ·rw[Az hx];simp[hx]
  ·rw[AJ hx];by_cases hr:find r s<0
   ·rw[Az hr]
    have:=ih.1 hr
    simp only[BB,not_or];exact⟨fun _=>⟨fun e=>hx e.symm,this⟩,fun _=>by omega⟩
   ·rw[AJ hr]
    have:s∈r:=BX fun q=>hr (ih.2 q)
    constructor
    ·intro h;omega
    ·intro h;exact absurd (Bq _ this) h
theorem Rt {l:List (List Int)} {s:List Int} (h:0<=find l s):∃i:Nat,find l s=(i:Int)/\∃hi:i<l.length,l[i]=s:=by
 induction l with
 | nil=>unfold find at h;omega
 | cons x r ih =>
  unfold find at h ⊢;by_cases hx:x=s
  ·rw[Az hx];exact⟨0,rfl,σ,hx⟩
  ·rw[AJ hx]at h ⊢;by_cases hr:find r s<0
   ·rw[Az hr]at h;omega
   ·rw[AJ hr];obtain⟨i,h1,h2,h3⟩:=ih ω;exact⟨i+1,by rw[h1];rfl,by simp;omega,by simpa using h3⟩
theorem mF {l:List (List Int)} {s:List Int} (i:Nat) (hi:i<l.length) (hs:l[i]=s) (hb:∀k (hk:k<i),l[k]'ω≠s):find l s=(i:Int):=by
 induction l generalizing i with
 | nil=>simp at hi
 | cons x r ih =>
  unfold find;cases i with
  | zero=>rw[Az (by simpa using hs)];rfl
  | succ i =>
   rw[AJ (by simpa using hb 0 ω)]
   have:=ih i (by simpa using hi) (by simpa using hs) (fun k hk=>by simpa using hb (k+1) ω)
   rw[this,AJ ω];rfl
theorem uh {l:List (List Int)} {s:List Int} (hb:∀k (hk:k<l.length),l[k]≠s):find l s = -1:=by
 have h1:find l s<0:=Fu.2 fun hm=>by
  obtain⟨k,hk,e⟩:=BG hm;exact hb k hk e
 have:=sa l s
 omega
def names (ts:List Tm):List (List Int):=ts.map Tm.nm
def term (G:Gr) (s:List Int):Int:=find (names G.ts) s
def zk (G:Gr) (s:List Int):Int:=find G.ns s
def has (G:Gr) (z:Int):Bool:=if 0<=z then decide (z<G.ts.length) else decide (-1-z<G.ns.length)
def name (G:Gr) (z:Int):List Int:=if has G z then(if 0<=z then(names G.ts).getD z.toNat [] else G.ns.getD (-1-z).toNat []) else []
def named (s:List Int):Bool:=T.isName s||T.isLit s
def nh (n:Int):List Tm->Int->Bool
 | [],way=>way != 0
 | t::r,way=>if t.lv≠n then nh n r way else if way≠0/\way≠t.wy then false else nh n r t.wy
def iV (ts:List Tm) (i:Nat) (t:Tm):Bool:=named t.nm&&(find (names ts) t.nm==(i:Int))&&decide (0<=t.lv)&&decide (t.lv<=24)&&decide (0<=t.wy)&&decide (t.wy<=3)&&((t.lv==0)==(t.wy==0))&&decide (∀n,n<t.lv.toNat->nh ((n+1:Nat):Int) ts 0=true)
def gW (ts:List Tm):Bool:=decide (ts.length<=24)&&decide (∀i (h:i<ts.length),iV ts i ts[i]=true)
def nr (G:Gr) (i:Nat) (s:List Int):Bool:=T.isName s&&(zk G s==(i:Int))&&decide (term G s<0)
def jT (G:Gr):Bool:=decide (1<=G.ns.length)&&decide (G.ns.length<=16)&&decide (∀i (h:i<G.ns.length),nr G i G.ns[i]=true)
def gu (G:Gr) (r:Rl):Bool:=decide (r.r.length<=6)&&decide (-1<=r.p)&&decide (r.p<G.ts.length)&&r.r.all fun z=>has G z && !(decide (0<=z)&&r.p == -1)
def rules (G:Gr):List Rl->Int->Bool
 | [],top=>top==G.ns.length-1
 | r::rs,top=>if r.l<0\/top+1<r.l\/gu G r=false then false else rules G rs (if top<r.l then r.l else top)
def right (G:Gr):Bool:=gW G.ts&&jT G&&decide (1<=G.rs.length)&&decide (G.rs.length<=40)&&decide (0<=G.st)&&decide (G.st<G.ns.length)&&rules G G.rs (-1)
def um (G:Gr):Bool:=decide (40<G.ts.length)||decide (40<G.ns.length)||decide (60<G.rs.length)||G.rs.any fun r=>decide (20<r.r.length)
end Gm
end Go.Proofs.YtjjbaehamplnaaaGreat
namespace Go.Calm
section
variable {P:Program} {ops:Array Oper} {Q:Exit->Act->World->Prop} {md:Region.Mode}
def il:Op->Bool
 | .move _ | .assign _ | .pick .. | .load .. | .convert .. | .binOp .. | .unOp .. | .slice .. | .fieldAddr .. | .field .. | .indexAddr .. | .index .. | .extract .. | .build ..=>true
 | .call c=>match c.callee with
  | .builtin .len | .builtin .cap=>true
  | _=>false
 | _=>false
theorem iX {s:Sem Value} {n:Next} (h:((do pure (.value (<-s))):Sem Next).run P w=.ok n w'):∃u,n=.value u:=by
 rw[EP]at h;cases hs:s.run P w with
 | ok v w1=>rw[hs]at h;simp[Result.andThen,Ds]at h;exact⟨v,h.1.symm⟩
 | halt x w1=>rw[hs]at h;simp[Result.andThen]at h
theorem jU {o:Oper} (hp:il o.op=true) {a:Act} {n:Next} (h:(execOp a.eval o).run P w=.ok n w'):∃u,n=.value u:=by
 obtain⟨dst,op,type,pos,after,guard⟩:=o;cases op with
 | call c =>
  obtain⟨callee,args,ats⟩:=c;cases callee with
  | builtin b =>
   cases b with
   | len=>exact iX (s:=Builtin.len_ ats type (args.map a.eval)) h
   | cap=>exact iX (s:=Builtin.cap_ ats type (args.map a.eval)) h
   | _=>exact absurd hp (by simp[il])
  | invoke recv name=>exact absurd hp (by simp[il])
  | value f=>exact absurd hp (by simp[il])
 | move x=>simp[execOp,Ds]at h;exact⟨_,h.1.symm⟩
 | assign x=>simp[execOp,Ds]at h;exact⟨_,h.1.symm⟩
 | pick c x y =>
  simp only[execOp,EP]at h;cases hs:(asBool (a.eval c)).run P w with
  | ok v w1=>rw[hs]at h;simp[Result.andThen,Ds]at h;exact⟨_,h.1.symm⟩
  | halt x w1=>rw[hs]at h;simp[Result.andThen]at h
 | _=>first
  | (simp[il]at hp;done)
  | exact iX h
theorem jX {S:World->Prop} {o:Oper} {a:Act} (hp:il o.op=true) (hw:Region.wanted o (yielded ops a.tmps)=true) (h:∀w,S w->o.quietAt P a S w v):YieldsIf P ops S o v a:=by
 refine .inl ⟨hw,fun w hS=>?_⟩;have h1:=h w hS;unfold Oper.quietAt at h1;cases hr:(execOp a.eval o).run P w with
 | ok n w' =>
  obtain⟨u,rfl⟩:=jU hp hr;rw[hr]at h1;simp only[Oper.quietUpon]at h1;rw[h1.1,h1.2]
 | halt x w'=>rw[hr]at h1;simp[Oper.quietUpon]at h1
def fo (ops:Array Oper):List Nat->List Oper
 | []=>[]
 | i::r=>match ops[i]? with
  | some o=>o::fo ops r
  | none=>fo ops r
def marked:List Nat->Array Bool->Array Bool
 | [],l=>l
 | i::r,l=>marked r (l.setIfInBounds i true)
def iq (md:Region.Mode) (ops:Array Oper):List Nat->Array Bool->Bool
 | [],_=>true
 | i::r,l=>(match ops[i]? with|some o=>il o.op|none=>false)&&Region.free md ops l i&&(Region.ready md ops l).contains i&&iq md ops r (l.setIfInBounds i true)
theorem gV {S S':World->Prop} (h:∀x,S' x->S x):∀(fuel:Nat) (listed:Array Bool) (a:Act) (w:World),wpAnyH P md ops Q S' fuel listed a w->wpAnyH P md ops Q S fuel listed a w
 | 0,_,_,_,k=>k
 | fuel+1,_,_,_,k=>⟨k.1,fun i hi=>wpOp_mono (fun a w hk=>⟨h _ hk.1,gV h fuel _ a w hk.2⟩) (k.2 i hi)⟩
theorem fJ {S:World->Prop} (hs:Region.noSelect ops=true) (hQ:∀c a d v w,Q (.panic c) (a.put d v) w->Q (.panic c) a w) {w:World} (hS:S w) (fuel:Nat) :
  ∀(p:List Nat) (listed:Array Bool) (a:Act),iq md ops p listed=true ->
   wpQuiet P ops S (fun a'=>wpAnyH P md ops Q S fuel (marked p listed) a' w) (fo ops p) a->wpAnyH P md ops Q S (p.length+fuel) listed a w
 | [],_,_,_,h=>by rw[Ey,BF];exact h
 | i::r,listed,a,hb,h=>by
  unfold iq at hb;cases ho:ops[i]? with
  | none=>rw[ho]at hb;simp at hb
  | some o =>
   rw[ho]at hb;simp only[Bd]at hb;obtain⟨⟨⟨hp,hf⟩,hr⟩,aa⟩:=hb;have hl:fo ops (i::r)=o::fo ops r:=by simp only[fo,ho]
   rw[hl]at h;rw[show(i::r).length+fuel=(r.length+fuel)+1 by rw[Bz];omega];unfold wpQuiet at h;by_cases hw:Region.wanted o (yielded ops a.tmps)=true
   ·rw[Az hw]at h;obtain⟨v,h1,h2⟩:=h;exact wpAnyH_take ho hs hf hr (fun c a w=>hQ c a o.dst v w) (jX hp hw h1) hS (fJ hs hQ hS fuel r _ _ aa h2)
   ·rw[AJ hw]at h;exact wpAnyH_take ho hs hf hr (fun c a w=>hQ c a o.dst undef w) (.inr ⟨by simpa using hw,rfl⟩) hS (fJ hs hQ hS fuel r _ _ aa h)
where
 wpQuiet_mono' {S:World->Prop} {Q1 Q2:Act->Prop} (h:∀a,Q1 a->Q2 a):∀ {l:List Oper} {a:Act},wpQuiet P ops S Q1 l a->wpQuiet P ops S Q2 l a
  | [],_,k=>h _ k
  | o::r,a,k=>by
   unfold wpQuiet at k ⊢;split
   ·rename_i hw;rw[Az hw]at k;obtain⟨v,h1,h2⟩:=k;exact⟨v,h1,wpQuiet_mono' h h2⟩
   ·rename_i hw;rw[AJ hw]at k;exact wpQuiet_mono' h k
end
def On (B:Nat) (w:World):Type:={x:World // Below B w x}
instance (B:Nat) (w:World):Nonempty (On B w):=⟨⟨w,AB _ _⟩⟩
end Go.Calm
namespace Go.Proofs.YtjjbaehamplnaaaGreat
theorem yM {x:World} (h:Below B w x):Hid (∃z:Calm.On B w,x=z.1):=aA ⟨⟨x,h⟩,rfl⟩
theorem rM (w:World):Hid (∃z:Calm.On w.heap.size w,w.drew=z.1):=yM (aB (AB _ _) 1)
theorem SA (z:Int) (hz:-9223372036854775808<=z) (aa:z<=9223372036854775807) (w:World) :
  Calls prog 196 #[.int .i64 z] w fun e w'=>e=.returned (.int .i64 (-1-z))/\w'=w:=by
 have hs:IntKind.i64.wrap (-1-z) = -1-z:=BV _ ω;clear hz aa
 go_enter func196,ntmps196
 go_wp2;go_ret
 exact⟨rfl,rfl⟩
theorem K5 (z:Int) (w:World) :
  Calls prog 157 #[.int .i64 z] w fun e w'=>e=.returned (.bool (decide (0<=z)))/\w'=w:=by
 go_enter func157,ntmps157
 go_wp2;go_ret
 exact⟨rfl,rfl⟩
theorem JQ (v:Value) (G:Gm.Gr) (B:Nat) (z:Int) (hz:Gm.In z) (w:World) (hg:aT w B v G) :
  Calls prog 156 #[v,.int .i64 z] w fun e w'=>e=.returned (.bool (Gm.has G z))/\β w w':=by
 obtain⟨AT,cT,AN,cN,AR,cR,rfl,_⟩:=hg;have HB:=aA (fun o=>(AB w.heap.size w).alloc (Af _) o);unfold Gm.In at hz;unfold Gm.has;by_cases h0:0<=z
 ·rw[Az h0];clear hz
  go_enter func156,ntmps156
  go_wp2;go_ret
  exact⟨rfl,HB.o _⟩
 ·rw[AJ h0];have HN:=aA (fun w=>SA z ω ω w);have aa:decide (0<=z)=false:=AU h0;clear hz
  go_enter func156,ntmps156
  go_wp2_with fail
  go_quiet ((go_at_call 196;exact DF (HN.o _)))
  go_wp2;go_ret
  exact⟨rfl,aB (HB.o _) _⟩
theorem QM (v:Value) (G:Gm.Gr) (B:Nat) (z:Int) (hz:Gm.In z) (w:World) (hg:aT w B v G) :
  Calls prog 112 #[v,.int .i64 z] w fun e w'=>e=.returned (.bool (Gm.has G z))/\β w w':=by
 obtain⟨AT,cT,AN,cN,AR,cR,rfl,_⟩:=hg;have HB:=aA (fun o=>(AB w.heap.size w).alloc (Af _) o);unfold Gm.In at hz;unfold Gm.has;have hs:¬0<=z->IntKind.i64.wrap (-1-z) = -1-z:=fun h=>BV _ ω;by_cases h0:0<=z
 ·rw[Az h0];clear hz hs
  go_enter func112,ntmps112
  go_wp2;go_ret
  exact⟨rfl,HB.o _⟩
 ·rw[AJ h0];have hs:=hs h0;clear hz
  go_enter func112,ntmps112
  go_wp2;go_ret
  exact⟨rfl,HB.o _⟩
def ig (l:List (List Int)) (s:List Int) (k:Nat):Prop:=∀i (h:i<l.length),i<k->l[i]≠s
theorem ig.zero (l:List (List Int)) (s:List Int):ig l s 0:=fun _ _ h=>by omega
theorem ig.next {l:List (List Int)} {s:List Int} (h:ig l s k) (hk:k<l.length) (hn:l[k]≠s):ig l s (k+1):=fun i hi aa=>by
 rcases BM i k with h1|h1
 ·exact h i hi h1
 ·obtain rfl:i=k:=ω
  exact hn
theorem ig.here {l:List (List Int)} {s:List Int} (h:ig l s k) (hk:k<l.length) (hn:l[k]=s):Gm.find l s=(k:Int):=Gm.mF k hk hn fun i hi=>h i ω hi
theorem ig.none {l:List (List Int)} {s:List Int} (h:ig l s k) (hk:l.length<=k):Gm.find l s = -1:=Gm.uh fun i hi=>h i hi ω
theorem K.Gb {m:List Int} (hl:K.Tx l) (hm:K.Tx m):((K.str l).toList==(K.str m).toList)=decide (l=m):=by
 rw[Bx];simp only[BP,Bj]
 constructor
 ·intro h;rw[CX,CX]at h;exact K.bytes_inj hl.1 hm.1 (by simpa[K.str] using h)
 ·rintro rfl;rfl
theorem GQ (v:Value) (G:Gm.Gr) (s:List Int) (B:Nat) (w:World) (hg:aT w B v G) (hf:Gm.Fit G) (hs:K.Tx s) (hB:B<=w.heap.size) :
  Calls prog 109 #[v,.string (K.str s)] w fun e w'=>e=.returned (.int .i64 (Gm.term G s))/\β w w':=by
 obtain⟨AT,cT,AN,cN,AR,cR,rfl,⟨hl,hm⟩,_,_,ht,_,_⟩:=hg;have HB:=aA (fun o=>(AB w.heap.size w).alloc (Af _) o);have HT:=aA ht;have HF:=aA hf.t;have HL:Hid ((Gm.names G.ts).length=G.ts.length):=aA (by simp[Gm.names]);have ab:(G.ts.length:Int)<=9223372036854775807:=ω
 clear ht hf
 go_enter func109,ntmps109
 go_wp2
 go_loop [5] (fun vi=>∃(k:Nat),k<=G.ts.length/\vi=.int .i64 k/\ig (Gm.names G.ts) s k) (fun vi=>G.ts.length-(intOf vi).toNat)
 case atStart=>exact⟨0,Bb _,rfl,ig.zero _ _⟩
 case round =>
  obtain⟨k,hk,rfl,hn⟩:=hrel;have HN:=aA hn;clear hn;by_cases b:k<G.ts.length
  ·obtain⟨g,o,rfl,ac,hc⟩:=HT.o ω;have k0:=(hc k b).1;have ad:g<w.heap.size:=ω
   have hq:=(HF.o _ (AD b)).1;have aa:(Gm.names G.ts)[k]'(by rw[HL.o];exact b)=G.ts[k].nm:=by simp[Gm.names]
   have he:=K.Gb hq hs;have HQ:=aA aa;clear hc hq aa;generalize G.ts[k].nm=x at *;by_cases hx:x=s
   ·have HR:=aA (HN.o.here (by rw[HL.o];exact b) (HQ.o.trans hx));rw[AV hx]at he;clear hx;go_wp2;go_ret
    exact⟨aR HR.o.symm,HB.o _⟩
   ·have HR:=aA (HN.o.next (by rw[HL.o];exact b) (fun e=>hx (HQ.o.symm.trans e)));rw[AU hx]at he;clear hx;go_wp2
    go_round
    case rel=>exact⟨k+1,ω,ν,HR.o⟩
    case measure=>simp[intOf];omega
  ·obtain rfl:k=G.ts.length:=ω
   have HR:=aA (HN.o.none (by rw[HL.o];omega));go_wp2;go_ret
   exact⟨aR HR.o.symm,HB.o _⟩
theorem LF (v:Value) (G:Gm.Gr) (s:List Int) (B:Nat) (w:World) (hg:aT w B v G) (hf:Gm.Fit G) (hs:K.Tx s) (hB:B<=w.heap.size) :
  Calls prog 89 #[v,.string (K.str s)] w fun e w'=>e=.returned (.int .i64 (Gm.zk G s))/\β w w':=by
 obtain⟨AT,cT,AN,cN,AR,cR,rfl,_,⟨hl,hm⟩,_,_,ht,_⟩:=hg;have HB:=aA (fun o=>(AB w.heap.size w).alloc (Af _) o);have HT:=aA ht;have HF:=aA hf.n;have aa:(G.ns.length:Int)<=9223372036854775807:=ω
 clear ht hf
 go_enter func89,ntmps89
 go_wp2
 go_loop [5] (fun vi=>∃(k:Nat),k<=G.ns.length/\vi=.int .i64 k/\ig G.ns s k) (fun vi=>G.ns.length-(intOf vi).toNat)
 case atStart=>exact⟨0,Bb _,rfl,ig.zero _ _⟩
 case round =>
  obtain⟨k,hk,rfl,hn⟩:=hrel;have HN:=aA hn;clear hn;by_cases hlt:k<G.ns.length
  ·obtain⟨g,o,rfl,ab,hc⟩:=HT.o ω;have k0:=hc k hlt;have ac:g<w.heap.size:=ω
   have he:=K.Gb (HF.o _ (AD hlt)) hs;obtain⟨x,hq⟩:∃x,x=G.ns[k]:=⟨_,rfl⟩
   rw[<-hq]at k0 he;have HQ:=aA hq;clear hc hq;by_cases hx:x=s
   ·have HR:=aA (HN.o.here hlt (HQ.o.symm.trans hx));rw[AV hx]at he;clear hx;go_wp2;go_ret
    exact⟨aR HR.o.symm,HB.o _⟩
   ·have HR:=aA (HN.o.next hlt (fun e=>hx (HQ.o.trans e)));rw[AU hx]at he;clear hx;go_wp2
    go_round
    case rel=>exact⟨k+1,ω,ν,HR.o⟩
    case measure=>simp[intOf];omega
  ·obtain rfl:k=G.ns.length:=ω
   have HR:=aA (HN.o.none ω);go_wp2;go_ret
   exact⟨aR HR.o.symm,HB.o _⟩
end Go.Proofs.YtjjbaehamplnaaaGreat
namespace Go.Proofs
open Go.Shelf
def Tryz.pJ:Go.Shelf.Ren:=⟨fun|103=>191|210=>218|206=>231|n=>n,fun|9=>9|4=>4|24=>262|3=>3|n=>n,fun|n=>n⟩
theorem Tryz.xm:Go.Proofs.Lays.n103 prog Tryz.pJ:={
 mixed:=κ
 f103:=Tryz.func191.trans (congrArg some κ)
 f206:=Tryz.func231.trans (congrArg some κ)
 f210:=Tryz.func218.trans (congrArg some κ)
 t3:=underlying3
 a3:=isAgg3
 z3:=sizeOf3
 v3:=zeroValue3
 t4:=underlying4
 a4:=isAgg4
 z4:=sizeOf4
 v4:=zeroValue4
 t9:=underlying9
 a9:=isAgg9
 z9:=sizeOf9
 v9:=zeroValue9
 t24:=underlying262
 a24:=isAgg262
 z24:=sizeOf262
 v24:=zeroValue262}
open Go.RowKit in
theorem Tryz.strings_CutPrefix (s p:ByteArray) (w:World) :
  Calls prog 191 #[.string s,.string p] w fun e w'=>e=.returned (.tuple #[.string ⟨(Lib.trimPrefix s.data.toList p.data.toList).toArray⟩,.bool (Lib.hasPrefix s.data.toList p.data.toList)])/\w'=w:=Any.strings_CutPrefix Tryz.xm s p w
def Tryz.pK:Go.Shelf.Ren:=⟨fun|104=>192|211=>219|207=>232|n=>n,fun|9=>9|4=>4|24=>262|3=>3|n=>n,fun|n=>n⟩
theorem Tryz.xo:Go.Proofs.Lays.n104 prog Tryz.pK:={
 mixed:=κ
 f104:=Tryz.func192.trans (congrArg some κ)
 f207:=Tryz.func232.trans (congrArg some κ)
 f211:=Tryz.func219.trans (congrArg some κ)
 t3:=underlying3
 a3:=isAgg3
 z3:=sizeOf3
 v3:=zeroValue3
 t4:=underlying4
 a4:=isAgg4
 z4:=sizeOf4
 v4:=zeroValue4
 t9:=underlying9
 a9:=isAgg9
 z9:=sizeOf9
 v9:=zeroValue9
 t24:=underlying262
 a24:=isAgg262
 z24:=sizeOf262
 v24:=zeroValue262}
open Go.RowKit in
theorem Tryz.strings_CutSuffix (s p:ByteArray) (w:World) (hs:s.size<=9223372036854775807) :
  Calls prog 192 #[.string s,.string p] w fun e w'=>e=.returned (.tuple #[.string ⟨(Lib.trimSuffix s.data.toList p.data.toList).toArray⟩,.bool (Lib.hasSuffix s.data.toList p.data.toList)])/\w'=w:=Any.strings_CutSuffix Tryz.xo s p w hs
def Tryz.pL:Go.Shelf.Ren:=⟨fun|122=>186|215=>212|n=>n,fun|3=>3|4=>4|n=>n,fun|n=>n⟩
theorem Tryz.xq:Go.Proofs.Lays.n122 prog Tryz.pL:={
 mixed:=κ
 f122:=Tryz.func186.trans (congrArg some κ)
 f215:=Tryz.func212.trans (congrArg some κ)
 t3:=underlying3
 a3:=isAgg3
 z3:=sizeOf3
 v3:=zeroValue3
 t4:=underlying4
 a4:=isAgg4
 z4:=sizeOf4
 v4:=zeroValue4}
open Go.RowKit in
theorem Tryz.cmp_Compare_int (x y:Int) (w:World) :
  Calls prog 186 #[.int .i64 x,.int .i64 y] w fun e w'=>e=.returned (.int .i64 (Lib.compareInt x y))/\w'=w:=Any.cmp_Compare_int Tryz.xq x y w
def Tryz.pM:Go.Shelf.Ren:=⟨fun|212=>101|263=>151|264=>152|n=>n,fun|46=>178|51=>104|146=>230|53=>232|148=>233|n=>n,fun|n=>n⟩
theorem Tryz.xr:Go.Proofs.Lays.n212 prog Tryz.pM:={
 mixed:=κ
 f212:=Tryz.func101.trans (congrArg some κ)
 f263:=Tryz.func151.trans (congrArg some κ)
 f264:=Tryz.func152.trans (congrArg some κ)
 t46:=underlying178
 a46:=isAgg178
 z46:=sizeOf178
 v46:=zeroValue178
 t51:=underlying104
 a51:=isAgg104
 z51:=sizeOf104
 v51:=zeroValue104
 t53:=underlying232
 a53:=isAgg232
 z53:=sizeOf232
 v53:=zeroValue232
 t146:=underlying230
 a146:=isAgg230
 z146:=sizeOf230
 v146:=zeroValue230
 t148:=underlying233
 a148:=isAgg233
 z148:=sizeOf233
 v148:=zeroValue233}
open Go.RowKit Go.Lib in
theorem Tryz.bits_Mul (x y:Nat) (hx:x<18446744073709551616) (hy:y<18446744073709551616) (w:World) :
  Calls prog 101 #[.int .u64 x,.int .u64 y] w fun e w'=>e=.returned (.tuple #[.int .u64 ((x*y / 18446744073709551616:Nat):Int),.int .u64 ((x*y % 18446744073709551616:Nat):Int)])/\w'=w:=Any.bits_Mul Tryz.xr x y hx hy w
end Go.Proofs
namespace Go.Proofs.YtjjbaehamplnaaaGreat
theorem PB (z:Int) (w:World) :
  Calls prog 220 #[.int .u8 z] w fun e w'=>e=.returned (.bool (T.small z))/\w=w':=by
 unfold T.small
 go_enter func220,ntmps220
 go_wp2;all_goals go_ret
 all_goals (refine⟨aD ?_,rfl⟩;first|rfl|(rw[Bx];simp;done)|(rw[Bx];simp;omega))
theorem RJ (z:Int) (w:World) :
  Calls prog 194 #[.int .u8 z] w fun e w'=>e=.returned (.bool (T.head z))/\w=w':=by
 have P1:=fun w=>PB z w;unfold T.head;generalize T.small z=s at *
 go_enter func194,ntmps194
 go_wp2_with fail
 refine(P1 _).mono ?_;rintro _ w' ⟨rfl,rfl⟩;clear P1;cases s <;> go_wp2
 all_goals go_ret
 all_goals (refine⟨aD ?_,rfl⟩;first|rfl|(rw[Bx];simp;done)|(rw[Bx];simp;omega))
theorem Rn (z:Int) (w:World) :
  Calls prog 195 #[.int .u8 z] w fun e w'=>e=.returned (.bool (T.tail z))/\w=w':=by
 unfold T.tail
 go_enter func195,ntmps195
 go_wp2;all_goals go_ret
 all_goals (refine⟨aD ?_,rfl⟩;first|rfl|(rw[Bx];simp;done)|(rw[Bx];simp;omega))
theorem zN (z:Int) (w:World) :
  Calls prog 159 #[.int .u8 z] w fun e w'=>e=.returned (.bool (T.head z))/\w=w':=by
 unfold T.head T.small
 go_enter func159,ntmps159
 go_wp2;all_goals go_ret
 all_goals (refine⟨aD ?_,rfl⟩;first|rfl|(rw[Bx];simp;done)|(rw[Bx];simp;omega))
theorem Lw (z:Int) (w:World) :
  Calls prog 160 #[.int .u8 z] w fun e w'=>e=.returned (.bool (T.fB z))/\w=w':=by
 have P1:=fun w=>zN z w;unfold T.fB T.tail;generalize T.head z=s at *
 go_enter func160,ntmps160
 go_wp2_with fail
 refine(P1 _).mono ?_;rintro _ w' ⟨rfl,rfl⟩;clear P1;cases s <;> go_wp2
 all_goals go_ret
 all_goals (refine⟨aD ?_,rfl⟩;first|rfl|(rw[Bx];simp;done)|(rw[Bx];simp;omega))
theorem Qr (A:Option Addr) (c B:Nat) (l:List Int) (w:World) (hr:ij w B A l) (hn:l.length<=5000) :
  Calls prog 154 #[.slice A l.length c] w fun e w'=>e=.returned (.int .i64 (T.ie l))/\w=w':=by
 have HF:=aA (T.pV l)
 go_enter func154,ntmps154
 go_wp2
 go_loop [3] (fun vi=>∃(k:Nat),k<=l.length/\vi=.int .i64 k/\(k=0\/T.ie l=k+T.run T.fB (l.drop k))) (fun vi=>l.length-(intOf vi).toNat)
 case atStart=>exact⟨0,ω,rfl,Or.inl rfl⟩
 case round =>
  obtain⟨k,hk,rfl,hs⟩:=hrel;have HS:=aA hs;clear hs;by_cases ad:k<l.length
  ·obtain⟨g,o,rfl,_,aa⟩:=hr ω;have ab:=aa k ω;have HN:=aA (T.mV T.fB l k ad);have P1:=aA (fun w=>RJ (l.getD k 0) w);have P2:=aA (fun w=>Rn (l.getD k 0) w);have HI:Hid (T.fB (l.getD k 0)=(T.head (l.getD k 0)||T.tail (l.getD k 0))):=aA rfl;have ac:Hid (k=0->T.ie l=if T.head (l.getD k 0) then T.run T.fB (l.drop 1)+1 else 0):=aA (by rintro rfl;exact HF.o ω);clear aa HF;generalize l.getD k 0=z at *;generalize T.head z=hh at *;generalize T.tail z=tt at *;generalize T.fB z=ii at *;go_wp2_with fail
   refine(P1.o _).mono ?_;rintro _ w' ⟨rfl,rfl⟩;cases hh
   ·by_cases h0:k=0
    ·subst h0;go_wp2;go_ret
     exact⟨aR (by have:=ac.o (by trivial);simp at this;omega),rfl⟩
    ·have h1:0<k:=ω
     clear h0;go_wp2_with fail
     refine(P2.o _).mono ?_;rintro _ w' ⟨rfl,rfl⟩;cases tt
     ·go_wp2;go_ret
      refine⟨aR ?_,rfl⟩;have e1:=HS.o;have e2:=HN.o;have e3:=HI.o;rw[e3]at e2;simp at e2;omega
     ·go_wp2
      go_round
      case rel =>
       refine⟨k+1,ω,ν,Or.inr ?_⟩;have e1:=HS.o;have e2:=HN.o;have e3:=HI.o;rw[e3]at e2;simp at e2;omega
      case measure=>simp[intOf];omega
   ·go_wp2
    go_round
    case rel =>
     refine⟨k+1,ω,ν,Or.inr ?_⟩;have e1:=HS.o;have e2:=HN.o;have e3:=HI.o;have e4:=ac.o;rw[e3]at e2;rcases e1 with rfl|e1
     ·have:=e4 rfl;simp at this;simp;omega
     ·simp at e2;omega
    case measure=>simp[intOf];omega
  ·obtain rfl:k=l.length:=ω
   clear hr HF;go_wp2;go_ret
   refine⟨aR ?_,rfl⟩;rcases HS.o with h|h
   ·obtain rfl:=BI h;simp[T.ie]
   ·rw[T.kh _ _ _ (Af _)]at h;omega
theorem K.gw (l:List Int):(K.str l).toList=K.bytes l:=by rw[CX];simp[K.str]
theorem Fy {m:List Int} (h:l=m):((K.str l).toList==K.bytes m)=true:=by rw[K.gw,h];simp
theorem zW {m:List Int} (hl:K.Bytes l) (hm:K.Bytes m) (h:¬l=m):((K.str l).toList==K.bytes m)=false:=by
 rw[K.gw,Bc];exact fun e=>h (K.bytes_inj hl hm e)
theorem K.gQ (l:List Int):(K.str l).size=l.length:=by simp[K.str,K.bytes,ByteArray.size]
theorem K.iH (hl:K.Bytes l) (i:Nat) (h:i<(K.str l).size):(((K.str l)[i]'h).toNat:Int)=l.getD i 0:=by
 have h':i<(K.bytes l).length:=by rw[K.gQ]at h;simpa[K.bytes] using h
 rw[<-K.jP hl i h']
 congr 2
theorem K.of (s:ByteArray):∃l,K.Bytes l/\s=K.str l:=by
 refine⟨s.data.toList.map fun b=>(b.toNat:Int),?_,?_⟩
 ·intro z hz;obtain⟨b,_,rfl⟩:=Bo.1 hz
  have:=b.toNat_lt
  omega
 ·unfold K.str K.bytes;rw[Ee]
  have:((fun z:Int=>UInt8.ofNat z.toNat)∘fun b:UInt8=>(b.toNat:Int))=id:=by
   funext b;simp
  rw[this];simp
theorem P0 (l:List Int) (hl:K.Bytes l) (hn:l.length<=9223372036854775807) (w:World) :
  Calls prog 193 #[.string (K.str l)] w fun e w'=>e=.returned (.bool (T.gD l))/\w=w':=by
 by_cases h0:l=[92,110]
 ·have e0:=Fy (l:=l) (m:=[92,110]) h0;rw[show K.bytes [92,110]=[92,110] from rfl]at e0;rw[show T.gD l=true from by rw[h0];rfl];clear h0 hl hn;generalize K.str l=s at *
  go_enter func193,ntmps193
  go_wp2;go_ret
  exact⟨rfl,rfl⟩
 have e0:=zW hl (m:=[92,110]) (xV _ δ) h0;rw[show K.bytes [92,110]=[92,110] from rfl]at e0;by_cases h1:l=[92,116]
 ·have e1:=Fy (l:=l) (m:=[92,116]) h1;rw[show K.bytes [92,116]=[92,116] from rfl]at e1;rw[show T.gD l=true from by rw[h1];rfl];clear h0 h1 hl hn;generalize K.str l=s at *
  go_enter func193,ntmps193
  go_wp2;go_ret
  exact⟨rfl,rfl⟩
 have e1:=zW hl (m:=[92,116]) (xV _ δ) h1;rw[show K.bytes [92,116]=[92,116] from rfl]at e1;by_cases h2:l=[92,92]
 ·have e2:=Fy (l:=l) (m:=[92,92]) h2;rw[show K.bytes [92,92]=[92,92] from rfl]at e2;rw[show T.gD l=true from by rw[h2];rfl];clear h0 h1 h2 hl hn;generalize K.str l=s at *
  go_enter func193,ntmps193
  go_wp2;go_ret
  exact⟨rfl,rfl⟩
 have e2:=zW hl (m:=[92,92]) (xV _ δ) h2;rw[show K.bytes [92,92]=[92,92] from rfl]at e2;by_cases h3:l=[92,39]
 ·have e3:=Fy (l:=l) (m:=[92,39]) h3;rw[show K.bytes [92,39]=[92,39] from rfl]at e3;rw[show T.gD l=true from by rw[h3];rfl];clear h0 h1 h2 h3 hl hn;generalize K.str l=s at *
  go_enter func193,ntmps193
  go_wp2;go_ret
  exact⟨rfl,rfl⟩
 have e3:=zW hl (m:=[92,39]) (xV _ δ) h3;rw[show K.bytes [92,39]=[92,39] from rfl]at e3;by_cases h4:l=[39]
 ·have e4:=Fy (l:=l) (m:=[39]) h4;rw[show K.bytes [39]=[39] from rfl]at e4;rw[show T.gD l=false from by rw[h4];rfl];clear h0 h1 h2 h3 h4 hl hn;generalize K.str l=s at *
  go_enter func193,ntmps193
  go_wp2;go_ret
  exact⟨rfl,rfl⟩
 have e4:=zW hl (m:=[39]) (xV _ δ) h4;rw[show K.bytes [39]=[39] from rfl]at e4;by_cases h5:l=[92]
 ·have e5:=Fy (l:=l) (m:=[92]) h5;rw[show K.bytes [92]=[92] from rfl]at e5;rw[show T.gD l=false from by rw[h5];rfl];clear h0 h1 h2 h3 h4 h5 hl hn;generalize K.str l=s at *
  go_enter func193,ntmps193
  go_wp2;go_ret
  exact⟨rfl,rfl⟩
 have e5:=zW hl (m:=[92]) (xV _ δ) h5;rw[show K.bytes [92]=[92] from rfl]at e5;have d:=K.gQ l;by_cases aa:l.length=1
 ·obtain⟨z,rfl⟩:=List.length_eq_one_iff.1 aa;have hz:=hl.hd
  have hv:T.gD [z]=(decide (32<=z)&&decide (z<=126)):=by
   have n1:(z != 39)=true:=by simpa using h4
   have n2:(z != 92)=true:=by simpa using h5
   simp[T.gD,n1,n2]
  rw[hv];have hb:∀h:0<(K.str [z]).size,(((K.str [z])[0]'h).toNat:Int)=z:=fun h=>K.iH hl 0 h;simp only[Bz,Ey]at d;clear h0 h1 h2 h3 h4 h5 hl hn hv aa;generalize K.str [z]=s at *;have ab:((s.size:Int)==1)=true:=by rw[d];rfl
  have ac:0<s.size:=ω
  have ad:=hb ac;clear d hb
  go_enter func193,ntmps193
  go_wp2;all_goals go_ret
  all_goals (refine⟨aD ?_,rfl⟩;first|rfl|(rw[Bx];simp;done)|(rw[Bx];simp;omega))
 ·have hv:T.gD l=false:=by
   match l with
   | []=>rfl
   | [z]=>exact absurd rfl aa
   | [a,b] =>
    simp only[T.gD,Bool.or_false,Bc.2 h0,Bc.2 h1,Bc.2 h2,Bc.2 h3]
   | a::b::c::r=>simp[T.gD]
  rw[hv];have ab:(((K.str l).size:Int)==1)=false:=by rw[d];exact Bc.2 ω
  clear h0 h1 h2 h3 h4 h5 hl hn hv aa d;generalize K.str l=s at *
  go_enter func193,ntmps193
  go_wp2;go_ret
  exact⟨rfl,rfl⟩
theorem K.lD (l:List Int):(K.str l).data.toList=K.bytes l:=by simp[K.str]
theorem RL (r:List Int):Lib.hasPrefix (K.bytes (39::r)) [39]=true:=by
 simp[Lib.hasPrefix,K.bytes,List.isPrefixOf]
theorem TK (hl:K.Bytes l) (h:∀r,l≠39::r):Lib.hasPrefix (K.bytes l) [39]=false:=by
 cases l with
 | nil=>rfl
 | cons z r =>
  have hz:=hl.hd;have hn:z≠39:=fun e=>h r (by rw[e]);simp only[Lib.hasPrefix,K.bytes,Bw,List.isPrefixOf,Bool.and_true];rw[Bc];intro e
  have:=congrArg UInt8.toNat e
  simp at this;omega
theorem RT (r:List Int) (w:World) :
  Calls prog 191 #[.string (K.str (39::r)),.string ⟨#[39]⟩] w fun e w'=>e=.returned (.tuple #[.string (K.str r),.bool true])/\w=w':=by
 refine(Tryz.strings_CutPrefix (K.str (39::r)) ⟨#[39]⟩ w).mono fun e w' ⟨he,hw⟩=>⟨he.trans ?_,hw.symm⟩
 rw[K.lD];have h:=RL r;unfold Lib.trimPrefix;rw[show(#[39]:Array UInt8).toList=[39] from rfl,h,Az rfl];rfl
theorem TT (l:List Int) (hl:K.Bytes l) (h:∀r,l≠39::r) (w:World) :
  Calls prog 191 #[.string (K.str l),.string ⟨#[39]⟩] w fun e w'=>e=.returned (.tuple #[.string (K.str l),.bool false])/\w=w':=by
 refine(Tryz.strings_CutPrefix (K.str l) ⟨#[39]⟩ w).mono fun e w' ⟨he,hw⟩=>⟨he.trans ?_,hw.symm⟩
 rw[K.lD];have h:=TK hl h;unfold Lib.trimPrefix;rw[show(#[39]:Array UInt8).toList=[39] from rfl,h,AJ σ];rfl
theorem RK (m:List Int):Lib.hasSuffix (K.bytes (m++[39])) [39]=true:=by
 unfold Lib.hasSuffix;rw[List.isSuffixOf_iff_suffix];exact⟨K.bytes m,by simp[K.bytes]⟩
theorem TJ (hl:K.Bytes l) (h:∀m,l≠m++[39]):Lib.hasSuffix (K.bytes l) [39]=false:=by
 rw[Dz];intro e;unfold Lib.hasSuffix at e;rw[List.isSuffixOf_iff_suffix]at e;obtain⟨t,ht⟩:=e;rcases List.eq_nil_or_concat l with rfl|⟨m,z,rfl⟩
 ·simp[K.bytes]at ht
 ·have hz:=hl z σ;have hk:K.bytes (m.concat z)=K.bytes m++[UInt8.ofNat z.toNat]:=by simp[K.bytes]
  rw[hk]at ht
  have:=List.append_inj_right' ht rfl
  injection this with this _
  have:=congrArg UInt8.toNat this
  simp at this;exact h m (by simp;omega)
theorem Mr (m:List Int) (hn:m.length<9223372036854775807) (w:World) :
  Calls prog 192 #[.string (K.str (m++[39])),.string ⟨#[39]⟩] w fun e w'=>e=.returned (.tuple #[.string (K.str m),.bool true])/\w=w':=by
 refine(Tryz.strings_CutSuffix (K.str (m++[39])) ⟨#[39]⟩ w (by rw[K.gQ];simp;omega)).mono fun e w' ⟨he,hw⟩=>⟨he.trans ?_,hw.symm⟩
 rw[K.lD];have h:=RK m;unfold Lib.trimSuffix;rw[show(#[39]:Array UInt8).toList=[39] from rfl,h,Az rfl]
 have:(K.bytes (m++[39])).take ((K.bytes (m++[39])).length-[(39:UInt8)].length)=K.bytes m:=by
  have e:K.bytes (m++[39])=K.bytes m++[39]:=by simp[K.bytes]
  rw[e];simp
 rw[this];rfl
theorem Na (l:List Int) (hl:K.Bytes l) (hn:l.length<=9223372036854775807) (h:∀m,l≠m++[39]) (w:World) :
  Calls prog 192 #[.string (K.str l),.string ⟨#[39]⟩] w fun e w'=>e=.returned (.tuple #[.string (K.str l),.bool false])/\w=w':=by
 refine(Tryz.strings_CutSuffix (K.str l) ⟨#[39]⟩ w (by rw[K.gQ];omega)).mono fun e w' ⟨he,hw⟩=>⟨he.trans ?_,hw.symm⟩
 rw[K.lD];have h:=TJ hl h;unfold Lib.trimSuffix;rw[show(#[39]:Array UInt8).toList=[39] from rfl,h,AJ σ];rfl
theorem SE (l:List Int) (hl:K.Bytes l) (hn:l.length<=9223372036854775807) (w:World) :
  Calls prog 153 #[.string (K.str l)] w fun e w'=>e=.returned (.bool (T.isLit l))/\w=w':=by
 by_cases hb:∃r,l=39::r
 ·obtain⟨r,rfl⟩:=hb;have P1:=aA (fun w=>RT r w);have hr:K.Bytes r:=hl.tl;have aa:r.length<9223372036854775807:=by simp at hn;omega
  by_cases he:∃m,r=m++[39]
  ·obtain⟨m,rfl⟩:=he;have ab:m.length<9223372036854775807:=by simp at aa;omega
   have P2:=aA (fun w=>Mr m ab w);have P3:=aA (fun w=>P0 m (fun z hz=>hr z (by simp[hz])) ω w);rw[T.sY m];clear hl hn hr aa ab;generalize K.str (39::(m++[39]))=s at *;generalize K.str (m++[39])=s2 at *;generalize K.str m=s3 at *;generalize T.gD m=b at *
   go_enter func153,ntmps153
   go_wp2_with fail
   refine(P1.o _).mono ?_;rintro _ w' ⟨rfl,rfl⟩;go_wp2_with fail
   refine(P2.o _).mono ?_;rintro _ w' ⟨rfl,rfl⟩;go_wp2_with fail
   refine(P3.o _).mono ?_;rintro _ w' ⟨rfl,rfl⟩;go_wp2;go_ret
   exact⟨rfl,rfl⟩
  ·have P2:=aA (fun w=>Na r hr ω (fun m e=>he ⟨m,e⟩) w)
   have hv:T.isLit (39::r)=false:=by
    rcases hq:T.isLit (39::r) with _|_
    ·rfl
    ·obtain⟨m,hm⟩:=T.kH _ hq;injection hm with _ hm;exact absurd ⟨m,hm⟩ he
   rw[hv];clear hl hn hr aa he hv;generalize K.str (39::r)=s at *;generalize K.str r=s2 at *
   go_enter func153,ntmps153
   go_wp2_with fail
   refine(P1.o _).mono ?_;rintro _ w' ⟨rfl,rfl⟩;go_wp2_with fail
   refine(P2.o _).mono ?_;rintro _ w' ⟨rfl,rfl⟩;go_wp2;go_ret
   exact⟨rfl,rfl⟩
 ·have P1:=aA (fun w=>TT l hl (fun r e=>hb ⟨r,e⟩) w)
  have hv:T.isLit l=false:=by
   rcases hq:T.isLit l with _|_
   ·rfl
   ·obtain⟨m,hm⟩:=T.kH _ hq;exact absurd ⟨_,hm⟩ hb
  have P2:Hid (∃(s2:ByteArray) (b:Bool),∀w,Calls prog 192 #[.string (K.str l),.string ⟨#[39]⟩] w fun e w'=>e=.returned (.tuple #[.string s2,.bool b])/\w=w'):=by
   refine aA ?_;by_cases he:∃m,l=m++[39]
   ·obtain⟨m,rfl⟩:=he;exact⟨K.str m,true,fun w=>Mr m (by simp at hn;omega) w⟩
   ·exact⟨K.str l,false,fun w=>Na l hl hn (fun m e=>he ⟨m,e⟩) w⟩
  obtain⟨s2,b,P2⟩:=P2.o
  replace P2:=aA P2
  rw[hv];clear hl hn hb hv;generalize K.str l=s at *
  go_enter func153,ntmps153
  go_wp2_with fail
  refine(P1.o _).mono ?_;rintro _ w' ⟨rfl,rfl⟩;go_wp2_with fail
  refine(P2.o _).mono ?_;rintro _ w' ⟨rfl,rfl⟩;go_wp2;go_ret
  exact⟨rfl,rfl⟩
def xZ (w:World) (l:List Int):Nat:=grownCap w l.length 0 5
def FU (w:World) (l:List Int):Obj:=.cells (bytesRow (K.str l) (xZ w l)) 5 ((bytesRow (K.str l) (xZ w l)).size,(bytesRow (K.str l) (xZ w l)).size+1)
theorem Px (w:World) (l:List Int):(convert 9 72 (.string (K.str l))).run prog w=.ok (.slice (some ⟨w.heap.size,0,none⟩) l.length (xZ w l)) (w.drew.alloc (FU w l)):=by
 have:=run_bytes_of_string (P:=prog) w 9 72 5 (K.str l) underlying9 underlying72 underlying5
 rw[K.gQ]at this;exact this
theorem Nj (w:World) (l:List Int) (hl:K.Bytes l):ij (w.drew.alloc (FU w l)) (w.drew.alloc (FU w l)).heap.size (some ⟨w.heap.size,0,none⟩) l/\Below w.heap.size w (w.drew.alloc (FU w l))/\l.length<=xZ w l:=by
 refine⟨fun _=>⟨w.heap.size,0,rfl,σ,fun j hj=>?_⟩,(aB (AB _ _) 1).alloc (Af _) _,grownCap_ge w l.length 0 _⟩
 have:=World.cell?_alloc_mark w.drew (bytesRow (K.str l) (xZ w l)) 5 ((bytesRow (K.str l) (xZ w l)).size,(bytesRow (K.str l) (xZ w l)).size+1) (0+j)
 rw[show w.drew.heap.size=w.heap.size from rfl]at this;unfold FU;rw[this];have aa:j<(K.bytes l).length:=by simpa[K.bytes] using hj
 have h2:0+j<(K.str l).data.size:=by simpa[K.str] using aa
 rw[bytesRow_at (K.str l) _ (0+j) h2]
 have:=K.jP hl j aa
 rw[<-this];simp[K.str]
theorem Ma (l:List Int) (hl:K.Bytes l) (w:World) :
  Calls prog 103 #[.string (K.str l)] w fun e w'=>e=.returned (.bool (T.isName l))/\β w w':=by
 have ab:=K.gQ l;by_cases h0:l=[]
 ·subst h0;have e0:(K.str []).toList=[]:=by rw[K.gw];rfl
  have hv:T.isName []=false:=δ
  rw[hv];clear ab hl hv;generalize K.str []=s at *
  go_enter func103,ntmps103
  go_wp2;go_ret
  exact⟨rfl,AB _ _⟩
 ·have e0:=zW hl (m:=[]) (xV _ δ) h0;rw[show K.bytes []=[] from rfl]at e0;have e2:¬(K.str l).toList=[]:=by simpa using e0
  have e1:(!(K.str l).toList.isEmpty)=true:=by
   rw[K.gw];cases l with
   | nil=>exact absurd rfl h0
   | cons z r=>rfl
  have aa:l.length≠0:=fun e=>h0 (BI e);by_cases ac:l.length<=20
  ·have hv:T.isName l=(((T.ie l:Nat):Int)==(l.length:Int)):=by
    unfold T.isName;rw[AV ac,AV aa,Cw,Cw,Bx]
    simp;omega
   have C1:=fun w=>Px w l;have P1:=aA (fun(w:World)=>(Qr (some ⟨w.heap.size,0,none⟩) (xZ w l) _ l (w.drew.alloc (FU w l)) (Nj w l hl).1 ω));have B1:=aA (fun(w:World)=>(Nj w l hl).2.1);rw[hv];clear hv aa h0 hl;generalize T.ie l=n at *;have ad:(l.length:Int)<=20:=ω
   clear ac;generalize l.length=m at *;have HZ:=aA ab;have ae:((K.str l).size:Int)=m:=ω
   clear ab;generalize K.str l=s at *
   go_enter func103,ntmps103
   go_wp2_with (simp only[C1])
   refine(P1.o _).mono ?_;rintro _ w' ⟨rfl,rfl⟩;go_wp2;go_ret
   exact⟨rfl,B1.o w⟩
  ·have hv:T.isName l=false:=by unfold T.isName;rw[AU ac];rfl
   rw[hv];have af:¬((K.str l).size:Int)<=20:=ω
   clear hv aa h0 hl ac ab;generalize K.str l=s at *
   go_enter func103,ntmps103
   go_wp2;go_ret
   exact⟨rfl,AB _ _⟩
theorem Js (l:List Int) (hl:K.Bytes l) (w:World) :
  Calls prog 111 #[.string (K.str l)] w fun e w'=>e=.returned (.bool (T.isName l))/\w=w':=by
 have d:=K.gQ l;by_cases h0:l.length=0
 ·obtain rfl:=BI h0;rw[show T.isName []=false from rfl];have af:((K.str []).size:Int)=0:=by rw[d];rfl
  clear d hl h0;generalize K.str []=s at *
  go_enter func111,ntmps111
  go_wp2;go_ret
  exact⟨rfl,rfl⟩
 by_cases f:l.length<=20
 ·have b:=T.mJ l;rw[AV h0,AV f,Cw,Cw]at b;have hp:0<(K.str l).size:=ω
  have ac:=K.iH hl 0 hp;have P1:=aA (fun w=>zN (l.getD 0 0) w);have ag:(((K.str l).size:Int)==0)=false:=Bc.2 ω;have ah:((K.str l).size:Int)<=20:=ω
  by_cases hh:T.head (l.getD 0 0)=true
  ·rw[hh,Cw]at b;have HI:=aA b;have aa:(l.length:Int)=((K.str l).size:Int):=ω
   have HB:=aA (fun k h=>K.iH hl k h);have HP:=aA (fun k w=>Lw (l.getD k 0) w);rw[hh]at P1;have HL:=aA d;clear d aa b hh h0 f hl;generalize l.getD 0 0=z at *;generalize T.isName l=res at *;generalize K.str l=s at *
   go_enter func111,ntmps111
   go_wp2_with fail
   refine(P1.o _).mono ?_;rintro _ w' ⟨rfl,rfl⟩;go_wp2
   go_loop [3] (fun vi=>∃(k:Nat),k<=s.size/\vi=.int .i64 k/\∀j,j<k->T.fB (l.getD j 0)=true) (fun vi=>s.size-(intOf vi).toNat)
   case atStart=>exact⟨0,ω,rfl,fun j hj=>by omega⟩
   case round =>
    obtain⟨k,hk,rfl,hs⟩:=hrel;have HS:=aA hs;clear hs ac P1;by_cases ad:k<s.size
    ·have ai:=HB.o k ad;have P2:=aA (HP.o k);rcases hq:T.fB (l.getD k 0) with _|_
     ·have HF:Hid (T.fB (l.getD k 0)=false):=aA hq;rw[hq]at P2;clear hq;have HK:Hid (k<l.length):=aA (by have:=HL.o;omega);generalize hz:l.getD k 0=z at *;have HZ:=aA hz;clear hz;go_wp2_with fail
      refine(P2.o _).mono ?_;rintro _ w' ⟨rfl,rfl⟩;go_wp2;go_ret
      refine⟨aD ?_,rfl⟩;rw[HI.o]
      symm
      apply AU;intro h;have h1:=h k HK.o;have h2:=HF.o;rw[HZ.o]at h1;rw[h1]at h2;cases h2
     ·have HF:Hid (T.fB (l.getD k 0)=true):=aA hq;rw[hq]at P2;clear hq;generalize hz:l.getD k 0=z at *;have HZ:=aA hz;clear hz;go_wp2_with fail
      refine(P2.o _).mono ?_;rintro _ w' ⟨rfl,rfl⟩;go_wp2
      go_round
      case rel =>
       refine⟨k+1,ω,ν,fun j hj=>?_⟩;by_cases ae:j=k
       ·subst ae;rw[HZ.o];exact HF.o
       ·exact HS.o j ω
      case measure=>simp[intOf];omega
    ·obtain rfl:k=s.size:=ω
     go_wp2;go_ret
     refine⟨aD ?_,rfl⟩;rw[HI.o]
     symm
     apply AV;intro j hj;exact HS.o j (by have:=HL.o;omega)
  ·have ab:T.head (l.getD 0 0)=false:=by simpa using hh
   rw[ab,CZ]at b;rw[b];rw[ab]at P1;clear d b hh ab h0 f hl;generalize l.getD 0 0=z at *;generalize K.str l=s at *
   go_enter func111,ntmps111
   go_wp2_with fail
   refine(P1.o _).mono ?_;rintro _ w' ⟨rfl,rfl⟩;go_wp2;go_ret
   exact⟨rfl,rfl⟩
 ·have hv:T.isName l=false:=by unfold T.isName;rw[AU f];rfl
  rw[hv];have aj:((K.str l).size:Int) > 20:=ω
  have ak:(((K.str l).size:Int)==0)=false:=Bc.2 ω;clear hv h0 hl f d;generalize K.str l=s at *
  go_enter func111,ntmps111
  go_wp2;go_ret
  exact⟨rfl,rfl⟩
theorem Jz (l:List Int) (hl:K.Bytes l) (w:World) :
  Calls prog 158 #[.string (K.str l)] w fun e w'=>e=.returned (.bool (T.isLit l))/\w=w':=by
 have f:=K.gQ l;by_cases h3:l.length=3
 ·obtain⟨a,b,c,rfl⟩:∃a b c,l=[a,b,c]:=by
   match l,h3 with
   | [a,b,c],_=>exact⟨a,b,c,rfl⟩
  clear h3;have hs:(K.str [a,b,c]).size=3:=f;have g:0<(K.str [a,b,c]).size:=ω
  have i:1<(K.str [a,b,c]).size:=ω
  have j:2<(K.str [a,b,c]).size:=ω
  have ab:(((K.str [a,b,c])[0]'g).toNat:Int)=a:=K.iH hl 0 g;have ac:(((K.str [a,b,c])[1]'i).toNat:Int)=b:=K.iH hl 1 i;have ad:(((K.str [a,b,c])[2]'j).toNat:Int)=c:=K.iH hl 2 j;have hq:(((K.str [a,b,c]).size:Int)==3)=true:=by rw[hs];rfl
  unfold T.isLit;clear hs f hl;generalize K.str [a,b,c]=s at *
  go_enter func158,ntmps158
  go_wp2;all_goals go_ret
  all_goals (refine⟨aD ?_,rfl⟩;first|(simp_all;done)|(simp_all;omega))
 by_cases h4:l.length=4
 ·obtain⟨a,b,c,d,rfl⟩:∃a b c d,l=[a,b,c,d]:=by
   match l,h4 with
   | [a,b,c,d],_=>exact⟨a,b,c,d,rfl⟩
  clear h3 h4;have hs:(K.str [a,b,c,d]).size=4:=f;have g:0<(K.str [a,b,c,d]).size:=ω
  have i:1<(K.str [a,b,c,d]).size:=ω
  have j:2<(K.str [a,b,c,d]).size:=ω
  have aa:3<(K.str [a,b,c,d]).size:=ω
  have ab:(((K.str [a,b,c,d])[0]'g).toNat:Int)=a:=K.iH hl 0 g;have ac:(((K.str [a,b,c,d])[1]'i).toNat:Int)=b:=K.iH hl 1 i;have ad:(((K.str [a,b,c,d])[2]'j).toNat:Int)=c:=K.iH hl 2 j;have af:(((K.str [a,b,c,d])[3]'aa).toNat:Int)=d:=K.iH hl 3 aa;have ae:(((K.str [a,b,c,d]).size:Int)==3)=false:=by rw[hs];rfl
  have hq:(((K.str [a,b,c,d]).size:Int)==4)=true:=by rw[hs];rfl
  unfold T.isLit;clear hs f hl;generalize K.str [a,b,c,d]=s at *
  go_enter func158,ntmps158
  go_wp2;all_goals go_ret
  all_goals (refine⟨aD ?_,rfl⟩;first|(simp_all;done)|(simp_all;omega))
 ·have hv:T.isLit l=false:=by
   rcases hq:T.isLit l with _|_
   ·rfl
   ·have:=T.iQ hq;omega
  rw[hv];have ae:(((K.str l).size:Int)==3)=false:=Bc.2 ω;have ag:(((K.str l).size:Int)==4)=false:=Bc.2 ω;clear hv hl f h3 h4;generalize K.str l=s at *
  go_enter func158,ntmps158
  go_wp2;go_ret
  exact⟨rfl,rfl⟩
end Go.Proofs.YtjjbaehamplnaaaGreat
