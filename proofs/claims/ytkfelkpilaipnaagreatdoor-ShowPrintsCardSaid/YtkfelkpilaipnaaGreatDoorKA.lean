/- Part of the proofs over this program: Shared, WordsB, Bytes, LexL, Shelf, LexFn, LexQuo, LexStr, LexSkip, LexPiece, LexPiece2, LexPc. -/
import Derived.Test.YtkfelkpilaipnaaGreatDoorProg
import Derived.WalkKit
import Derived.WalkSpells
import Derived.WalkLawsBesides
import Derived.Deep.Draws
import Derived.BigQuiet
import Derived.Deep.QuietTactic
import Derived.RegionTactic
import Derived.Deep.DeepFit
import Derived.Deep.RegionWith
import Derived.Laws.CopyOwn
import Derived.Laws.OwnMore
import Derived.OwnWalk
import Derived.ProofKit
import Derived.OpenShut
import Derived.Laws.IdiomStrings
import Derived.Lib.IndexLaws
import Derived.Lib.IndexMore
import Derived.Lib.Strings
import Derived.Lib.Bytes
import Derived.Lib.Index
import Derived.Shelf.Strings.Builder1
import Derived.Shelf.Strings.Builder2
import Derived.Shelf.Strings.OnBuilder
import Derived.Shelf.Small.Wraps
import Derived.Shelf.Strings.Search1
import Derived.Shelf.Strings.Prefix
import Derived.Shelf.Bytes.SlIndexSmall
import Derived.Shelf.Bytes.SlIndexAt
import Derived.Shelf.Bytes.SlSearch0
import Derived.Shelf.Bytes.SlSearch1
import Derived.Shelf.Bytes.SlSearch2
import Derived.Shelf.Bytes.SlIndexWhole
import Derived.Shelf.LaysM
import Derived.Shelf.Bytes.SlSmallAll
import Derived.Shelf.Bytes.SlEqualAll
import Derived.Ground.SlbtProg
import Derived.Shelf.Bytes.SlCut
import Derived.Shelf.Bytes.Small
import Derived.Shelf.Bytes.IndexByte
import Derived.ScopeJumps
import Derived.WalkMore
namespace Go.Proofs.YtkfelkpilaipnaaGreatDoor
set_option maxRecDepth 100000
set_option maxHeartbeats 40000000
open Go.RowKit
theorem aA {p:Prop} (h:p):Hid p:=h
theorem aC {a w:World} {row:Option Nat} (h:a.grownBy w row) (o:Obj):a.grownBy (w.alloc o) row :=
 ⟨h.os,h.tape,h.output,Nat.le_trans h.size (by simp),fun i hi hne=>(Below.heap_alloc w o i (Nat.lt_of_lt_of_le hi h.size)).trans (h.block i hi hne)⟩
theorem aD {a w:World} {g:Nat} (h:a.grownBy w (some g)) (i:Nat) (u:Value):a.grownBy (w.setCell ⟨g,i,none⟩ u) (some g) :=
 ⟨h.os,h.tape,h.output,by simpa[World.setCell] using h.size,fun k hk hne=>(Below.heap_setCell w ⟨g,i,none⟩ u k (by rintro rfl;exact hne rfl)).trans (h.block k hk hne)⟩
theorem aQ {a w:World} (h:Below a.heap.size a w) (row:Option Nat):a.grownBy w row:=⟨h.os,h.tape,h.output,h.size,fun i hi _=>h.block i hi⟩
theorem aB {B:Nat} {a w:World} (h:Below B a w) (n:Nat):Below B a (w.drewN n):=⟨h.os,h.tape,h.output,h.size,h.block⟩
theorem zah {k:IntKind} {a b:Int} (h:a=b):Ending.returned (.int k a)=.returned (.int k b):=by rw[h]
theorem aG {a b:Bool} (h:a=b):Ending.returned (.bool a)=.returned (.bool b):=by rw[h]
theorem zam {P:Program} (w:World) (base:Nat) (t ty e:TypeId) (i:TypeInfo) (size:Nat) (ht:P.underlying t=some (.slice e)) (hi:P.info? e=some i) (v:Value) (n:Nat) (xs:List Value) (hown:w.ownsRow base e size v n xs) (c:Nat) :
  (Builtin.append_ #[t,t] ty #[v,.slice none 0 c]).run P w=.ok v w:=by
 rcases hown.2 with⟨rfl,rfl⟩|⟨g,cap,cur,rfl,_,_,hnc,_⟩
 ·simp[Builtin.append_,run_underlying ht,sizeOf,typeInfo,hi,Builtin.lenOf,Builtin.firstCells]
 ·simp[Builtin.append_,run_underlying ht,sizeOf,typeInfo,hi,Builtin.lenOf,Builtin.firstCells,hnc,storeCells]
theorem L.gd_lt {l:List Int} {k:Nat} (h:k<l.length):l.getD k 0=l[k]:=by simp[List.getD,h]
theorem L.gd_ge {l:List Int} {k:Nat} (h:l.length≤k):l.getD k 0=0:=by simp[List.getD,h]
theorem L.getD_ext {l m:List Int} (h:l.length=m.length) (k:∀i,i<l.length→l.getD i 0=m.getD i 0):l=m:=by
 apply List.ext_getElem h
 intro i h1 h2
 have:=k i h1
 rwa [L.gd_lt h1,L.gd_lt h2]at this
theorem L.take_snoc (l:List Int) (k:Nat) (h:k<l.length):l.take (k+1)=l.take k++[l.getD k 0]:=by
 rw[L.gd_lt h,List.take_succ_eq_append_getElem h]
theorem L.cons_drop (l:List Int) (k:Nat) (h:k<l.length):l.drop k=l.getD k 0::l.drop (k+1):=by
 rw[L.gd_lt h,List.drop_eq_getElem_cons h]
theorem L.append_getD_lt (l m:List Int) (k:Nat) (h:k<l.length):(l++m).getD k 0=l.getD k 0:=by
 simp only[List.getD];rw[List.getElem?_append_left h]
end Go.Proofs.YtkfelkpilaipnaaGreatDoor
namespace Go.Proofs.YtkfelkpilaipnaaGreatDoor
set_option maxRecDepth 100000
set_option maxHeartbeats 40000000
open Go.RowKit Go.ChangeShapes Go.WideShapes Go.ChangeAt
def RdB (w:World) (B:Nat) (A:Option Addr) (zs:List Int):Prop :=
 zs.length≠0→∃g o,A=some ⟨g,o,none⟩∧g<B∧∀j,j<zs.length→w.cell? ⟨g,o+j,none⟩=some (.int .u8 (zs.getD j 0))
theorem RdB.nil (w:World) (B:Nat) (A:Option Addr):RdB w B A []:=fun h=>absurd rfl h
theorem RdB.keep {w w':World} {B:Nat} {A:Option Addr} {zs:List Int} (h:RdB w B A zs) (hk:∀g o,g<B→w'.cell? ⟨g,o,none⟩=w.cell? ⟨g,o,none⟩):RdB w' B A zs:=fun hn=>by
 obtain⟨g,o,e,hg,hc⟩:=h hn
 exact⟨g,o,e,hg,fun j hj=>(hk _ _ hg).trans (hc j hj)⟩
theorem RdB.more {w:World} {B B':Nat} {A:Option Addr} {zs:List Int} (h:RdB w B A zs) (hB:B≤B'):RdB w B' A zs:=fun hn=>by
 obtain⟨g,o,e,hg,hc⟩:=h hn
 exact⟨g,o,e,by omega,hc⟩
theorem RdB.below {w w':World} {B B':Nat} {A:Option Addr} {zs:List Int} (h:RdB w B A zs) (hb:Below B' w w') (hB:B≤B'):RdB w' B A zs :=
 h.keep fun g o hg=>hb.cell (p:=⟨g,o,none⟩) (Nat.lt_of_lt_of_le hg hB)
theorem RdB.up {w w':World} {A:Option Addr} {zs:List Int} (h:RdB w w.heap.size A zs) (hb:Below w.heap.size w w'):RdB w' w'.heap.size A zs:=(h.below hb (Nat.le_refl _)).more hb.size
theorem RdB.drewN {w:World} {B:Nat} {A:Option Addr} {zs:List Int} (h:RdB w B A zs) (n:Nat):RdB (w.drewN n) B A zs:=h
theorem RdB.drew {w:World} {B:Nat} {A:Option Addr} {zs:List Int} (h:RdB w B A zs):RdB w.drew B A zs:=h
theorem RdB.alloc {w:World} {B:Nat} {A:Option Addr} {zs:List Int} (h:RdB w B A zs) (hB:B≤w.heap.size) (o:Obj):RdB (w.alloc o) B A zs :=
 h.keep fun g i hg=>World.cell?_alloc_lt w o ⟨g,i,none⟩ (Nat.lt_of_lt_of_le hg hB)
theorem RdB.grown {w w':World} {B:Nat} {A:Option Addr} {zs:List Int} {g:Nat} (h:RdB w B A zs) (hg:w.grownBy w' (some g)) (hB:B≤g) (hs:B≤w.heap.size):RdB w' B A zs :=
 h.keep fun p o hp=>World.cell?_of_block (hg.block p (by omega) (fun e=>by injection e with e;omega))
theorem RdB.take {w:World} {B:Nat} {A:Option Addr} {zs:List Int} (h:RdB w B A zs) (k:Nat):RdB w B A (zs.take k):=fun hn=>by
 have hl:(zs.take k).length≤zs.length:=by rw[List.length_take];omega
 obtain⟨g,o,e,hg,hc⟩:=h (by omega)
 refine⟨g,o,e,hg,fun j hj=>?_⟩
 rw[hc j (by omega),L.gd_lt hj,L.gd_lt (by omega:j<zs.length),List.getElem_take]
theorem RdB.cell {w:World} {B:Nat} {zs:List Int} {g o:Nat} (h:RdB w B (some ⟨g,o,none⟩) zs) (j:Nat) (hj:j<zs.length):w.cell? ⟨g,o+j,none⟩=some (.int .u8 (zs.getD j 0)):=by
 obtain⟨g',o',e,_,hc⟩:=h (by omega)
 injection e with e;injection e with e1 e2
 subst e1 e2
 exact hc j hj
def ziC (w:World) (a:Option Addr) (len cap:Nat) (zs:List Int):Prop :=
 (a=none∧len=0∧cap=0∧zs=[]) ∨
 ∃x,a=some x∧len≤cap∧cap≤maxLen∧zs.length=cap∧(∀i,i<zs.length→w.cell? (x.add i)=some (.int .u8 (zs.getD i 0)))∧∀n∈zs,(Lit.int .u8 n).wf=true
theorem ziC.rd {w:World} {a:Option Addr} {len cap:Nat} {zs:List Int} (h:ziC w a len cap zs):∃xs,xs.length=len∧len≤cap∧cap≤9223372036854775807∧(∀n∈xs,(Lit.int .u8 n).wf=true)∧RdB w w.heap.size a xs:=by
 rcases h with⟨rfl,rfl,rfl,rfl⟩|⟨x,rfl,hl,hm,hz,hc,hw⟩
 ·exact⟨[],rfl,Nat.le_refl _,by omega,by simp,RdB.nil _ _ _⟩
 ·refine⟨zs.take len,by rw[List.length_take];omega,hl,by unfold maxLen at hm;omega,?_,?_⟩
  ·intro n hn
   exact hw n (List.mem_of_mem_take hn)
  ·intro h0
   have hlen:len≠0:=by rw[List.length_take]at h0;omega
   obtain⟨b,off,rfl,hc'⟩:=ints_at hc (by omega)
   refine⟨b,off,rfl,block_lt_of_cell (hc' 0 (by omega)),fun j hj=>?_⟩
   have hj':j<len:=by rw[List.length_take]at hj;omega
   rw[hc' j (by omega),L.gd_lt hj,L.gd_lt (by omega:j<zs.length),List.getElem_take]
end Go.Proofs.YtkfelkpilaipnaaGreatDoor
namespace Go.Proofs.YtkfelkpilaipnaaGreatDoor
set_option maxRecDepth 100000
set_option maxHeartbeats 40000000
open Go.RowKit
namespace K
def Bytes (l:List Int):Prop:=∀z∈l,0≤z∧z<256
theorem Bytes.nil:Bytes []:=by simp[Bytes]
theorem Bytes.tl {z:Int} {r:List Int} (h:Bytes (z::r)):Bytes r:=fun x hx=>h x (List.mem_cons_of_mem _ hx)
theorem Bytes.hd {z:Int} {r:List Int} (h:Bytes (z::r)):0≤z∧z<256:=h z (List.mem_cons_self ..)
theorem Bytes.app {l m:List Int} (h:Bytes l) (k:Bytes m):Bytes (l++m):=fun z hz=>by
 rcases List.mem_append.1 hz with h1|h1
 ·exact h z h1
 ·exact k z h1
theorem Bytes.take {l:List Int} (h:Bytes l) (k:Nat):Bytes (l.take k):=fun z hz=>h z (List.mem_of_mem_take hz)
theorem Bytes.drop {l:List Int} (h:Bytes l) (k:Nat):Bytes (l.drop k):=fun z hz=>h z (List.mem_of_mem_drop hz)
theorem Bytes.getD {l:List Int} (h:Bytes l) (k:Nat):0≤l.getD k 0∧l.getD k 0<256:=by
 by_cases hk:k<l.length
 ·rw[L.gd_lt hk];exact h _ (List.getElem_mem hk)
 ·rw[L.gd_ge (by omega)];omega
theorem Bytes.set {l:List Int} (h:Bytes l) (k:Nat) {z:Int} (h1:0≤z) (h2:z<256):Bytes (l.set k z):=fun x hx=>by
 rcases List.mem_or_eq_of_mem_set hx with h3|h3
 ·exact h x h3
 ·subst h3;exact⟨h1,h2⟩
end K
theorem RdB.drop {w:World} {B:Nat} {g o:Nat} {zs:List Int} (h:RdB w B (some ⟨g,o,none⟩) zs) (k:Nat):RdB w B (some ⟨g,o+k,none⟩) (zs.drop k):=fun hn=>by
 have hl:(zs.drop k).length=zs.length-k:=by rw[List.length_drop]
 obtain⟨g',o',e,hg,hc⟩:=h (by omega)
 injection e with e;injection e with e1 e2
 subst e1 e2
 refine⟨g,o+k,rfl,hg,fun j hj=>?_⟩
 rw[show o+k+j=o+(k+j) by omega,hc (k+j) (by omega),L.gd_lt hj,L.gd_lt (by omega:k+j<zs.length),List.getElem_drop]
def K.bytes (l:List Int):List UInt8:=l.map fun z=>UInt8.ofNat z.toNat
def K.str (l:List Int):ByteArray:=⟨(K.bytes l).toArray⟩
theorem K.bytes_at {l:List Int} (h:K.Bytes l) (j:Nat) (hj:j<(K.bytes l).length):(((K.bytes l)[j]).toNat:Int)=l.getD j 0:=by
 have hj':j<l.length:=by simpa[K.bytes] using hj
 have hb:=h.getD j
 rw[L.gd_lt hj']at hb ⊢
 simp only[K.bytes,List.getElem_map]
 generalize l[j]=z at *
 have:(UInt8.ofNat z.toNat).toNat=z.toNat:=by simp[UInt8.toNat_ofNat'];omega
 rw[this];omega
theorem K.bytes_inj {l m:List Int} (hl:K.Bytes l) (hm:K.Bytes m) (h:K.bytes l=K.bytes m):l=m:=by
 have hlen:l.length=m.length:=by have:=congrArg List.length h;simpa[K.bytes] using this
 refine L.getD_ext hlen fun i hi=>?_
 have h1:=K.bytes_at hl i (by simpa[K.bytes] using hi)
 have h2:=K.bytes_at hm i (by simpa[K.bytes] using(hlen▸hi))
 rw[←h1,←h2]
 simp only[h]
theorem K.str_eq {l m:List Int} (hl:K.Bytes l) (hm:K.Bytes m):(K.str l=K.str m)↔l=m:=by
 constructor
 ·intro h
  refine K.bytes_inj hl hm ?_
  have:=congrArg (fun s:ByteArray=>s.data.toList) h
  simpa[K.str] using this
 ·rintro rfl;rfl
theorem zaH {w:World} {B:Nat} {A:Option Addr} {l:List Int} (h:RdB w B A l) (hl:K.Bytes l) (c:Nat) :
  (convert 40 9 (.slice A l.length c)).run Tryz.prog w=.ok (.string (K.str l)) w:=by
 have hlen:(K.bytes l).length=l.length:=by simp[K.bytes]
 rcases Nat.eq_zero_or_pos l.length with h0|h0
 ·have hn:=List.eq_nil_of_length_eq_zero h0
  subst hn
  rw[run_convert_bytes_string w _ _ 5 A _ c Tryz.underlying40 Tryz.underlying5 Tryz.underlying9]
  rcases A with _|ad
  ·rfl
  ·rw[run_bytesToString w ad [].length c [] (by rfl)];rfl
 ·obtain⟨g,o,rfl,_,hc⟩:=h (by omega)
  rw[←hlen]
  refine run_convert_bytes_back w _ _ 5 ⟨g,o,none⟩ c (K.bytes l) Tryz.underlying40 Tryz.underlying5 Tryz.underlying9 fun j hj=>?_
  have e:((⟨g,o,none⟩:Addr).add j)=⟨g,o+j,none⟩:=by unfold Addr.add;by_cases h0:j=0 <;> simp[h0]
  rw[e,hc j (by omega),K.bytes_at hl j hj]
theorem aO (l:List Int) (h:(l.all fun z=>decide (0≤z)&&decide (z<256))=true):K.Bytes l:=fun z hz=>by
 have:=List.all_eq_true.1 h z hz
 simpa using this
def zaY (b:List Int):Obj:=.cells (b.map (Value.int .u8)).toArray 5 (b.length,b.length+1)
theorem zlD (w:World) (b:List Int):RdB (w.alloc (zaY b)) (w.alloc (zaY b)).heap.size (some ⟨w.heap.size,0,none⟩) b∧Below w.heap.size w (w.alloc (zaY b)):=by
 refine⟨fun _=>⟨w.heap.size,0,rfl,by simp,fun j hj=>?_⟩,(Below.refl _ _).alloc (Nat.le_refl _) _⟩
 have:=World.cell?_alloc_mark w (b.map (Value.int .u8)).toArray 5 (b.length,b.length+1) (0+j)
 unfold zaY
 rw[this]
 simp[hj,List.getD]
theorem zb3 (w:World) (b:List Int) (n c:Nat):(convert 40 40 (.slice (some ⟨w.heap.size,0,none⟩) n c)).run Tryz.prog (w.alloc (.cells (b.map (Value.int .u8)).toArray 5))=.ok (.slice (some ⟨w.heap.size,0,none⟩) n c) (w.alloc (zaY b)):=by
 have hsh:(w.alloc (.cells (b.map (Value.int .u8)).toArray 5)).shape? w.heap.size=some (5,b.length):=by
  unfold World.shape?
  rw[heap_alloc_new];simp
 have hfr:(w.alloc (.cells (b.map (Value.int .u8)).toArray 5)).freeze ⟨w.heap.size,b.length,none⟩ 1=w.alloc (zaY b):=by
  have hm:∀(a:Array Obj) (x:Obj) (f:Obj→Obj),(a.push x).modify a.size f=a.push (f x):=by
   intro a x f
   apply Array.ext
   ·simp
   ·intro i h1 h2
    simp only[Array.getElem_modify,Array.getElem_push]
    by_cases h:a.size=i
    ·subst h;simp
    ·have hi:i<a.size:=by simp at h1;omega
     simp[h,hi]
  unfold World.freeze
  rw[if_neg (by decide)]
  show({w with heap:=(w.heap.push (.cells (b.map (Value.int .u8)).toArray 5)).modify w.heap.size _}:World)=_
  rw[hm]
  rfl
 simp[convert,run_underlying Tryz.underlying40,run_underlying Tryz.underlying5,markStringish,hsh]
 exact hfr
end Go.Proofs.YtkfelkpilaipnaaGreatDoor
namespace Go.Proofs.YtkfelkpilaipnaaGreatDoor
set_option maxRecDepth 100000
set_option maxHeartbeats 40000000
namespace T
def small (z:Int):Bool:=decide (97≤z)&&decide (z≤122)
def head (z:Int):Bool:=small z||(decide (65≤z)&&decide (z≤90))||z==95
def tail (z:Int):Bool:=(decide (48≤z)&&decide (z≤57))||z==46
def inName (z:Int):Bool:=head z||tail z
def run (p:Int→Bool):List Int→Nat
 | []=>0
 | z::r=>if p z then run p r+1 else 0
def nsize:List Int→Nat
 | []=>0
 | z::r=>if head z then run inName r+1 else 0
def isName (l:List Int):Bool:=decide (l.length≤20)&&(decide (l.length≠0)&&decide (nsize l=l.length))
def isSign (l:List Int):Bool:=l==[92,110]||l==[92,116]||l==[92,92]||l==[92,39]||(match l with | [z]=>decide (32≤z)&&decide (z≤126)&&(z != 39)&&(z != 92)|_=>false)
def isLit:List Int→Bool
 | [a,b,c]=>a==39&&c==39&&decide (32≤b)&&decide (b≤126)&&(b != 39)&&(b != 92)
 | [a,b,c,d]=>a==39&&d==39&&b==92&&(c==110||c==116||c==92||c==39)
 | _=>false
theorem nsize_cons (z:Int) (r:List Int):nsize (z::r)=if head z then run inName r+1 else 0:=rfl
theorem run_le (p:Int→Bool) (l:List Int):run p l≤l.length:=by
 induction l with
 | nil=>simp[run]
 | cons z r ih=>unfold run;split <;> simp <;> omega
theorem zi9 (l:List Int):nsize l≤l.length:=by
 cases l with
 | nil=>simp[nsize]
 | cons z r=>rw[nsize_cons];have:=run_le inName r;split <;> simp <;> omega
theorem run_next (p:Int→Bool) (l:List Int) (k:Nat) (h:k<l.length):run p (l.drop k)=if p (l.getD k 0) then run p (l.drop (k+1))+1 else 0:=by
 rw[L.cons_drop l k h];rfl
theorem run_end (p:Int→Bool) (l:List Int) (k:Nat) (h:l.length≤k):run p (l.drop k)=0:=by
 rw[List.drop_eq_nil_of_le h];rfl
theorem nsize_first (l:List Int) (h:0<l.length):nsize l=if head (l.getD 0 0) then run inName (l.drop 1)+1 else 0:=by
 cases l with
 | nil=>simp at h
 | cons z r=>rfl
theorem ziR (p:Int→Bool) (l:List Int):run p l=l.length ↔ ∀j,j<l.length→p (l.getD j 0)=true:=by
 induction l with
 | nil=>simp[run]
 | cons z r ih =>
  unfold run
  constructor
  ·intro h j hj
   by_cases hz:p z=true
   ·rw[if_pos hz]at h
    simp at h
    cases j with
    | zero=>simpa using hz
    | succ j=>have:=ih.1 h j (by simp at hj;omega);simpa using this
   ·rw[if_neg hz]at h;simp at h
  ·intro h
   have h0:=h 0 (by simp)
   have:p z=true:=by simpa using h0
   rw[if_pos this]
   have:=ih.2 (fun j hj=>by have:=h (j+1) (by simp;omega);simpa using this)
   simp[this]
theorem ziQ (p:Int→Bool) (l:List Int) (k:Nat) (h:k≤run p l):run p (l.take k)=k:=by
 induction l generalizing k with
 | nil=>simp[run]at h;subst h;rfl
 | cons z r ih =>
  cases k with
  | zero=>rfl
  | succ k =>
   unfold run at h
   by_cases hz:p z=true
   ·rw[if_pos hz]at h
    simp only[List.take_succ_cons]
    unfold run
    rw[if_pos hz,ih k (by omega)]
   ·rw[if_neg hz]at h;omega
theorem zgq (l:List Int) (k:Nat) (h:k≤nsize l):nsize (l.take k)=k:=by
 cases l with
 | nil=>simp[nsize]at h;subst h;rfl
 | cons z r =>
  cases k with
  | zero=>rfl
  | succ k =>
   rw[nsize_cons]at h
   by_cases hz:head z=true
   ·rw[if_pos hz]at h
    simp only[List.take_succ_cons]
    rw[nsize_cons,if_pos hz,ziQ _ _ _ (by omega)]
   ·rw[if_neg hz]at h;omega
theorem isName_iff (l:List Int):isName l=(decide (l.length≠0)&&decide (l.length≤20)&&head (l.getD 0 0)&&decide (∀j,j<l.length→inName (l.getD j 0)=true)):=by
 cases l with
 | nil=>simp[isName]
 | cons z r =>
  rw[Bool.eq_iff_iff]
  have hr:=ziR inName r
  unfold isName
  simp only[Bool.and_eq_true,decide_eq_true_eq]
  constructor
  ·rintro⟨h1,h2,h3⟩
   rw[nsize_cons]at h3
   by_cases hz:head z=true
   ·rw[if_pos hz]at h3
    refine⟨⟨⟨by simp,h1⟩,by simpa using hz⟩,fun j hj=>?_⟩
    cases j with
    | zero=>simp[inName,hz]
    | succ j =>
     have:=hr.1 (by simpa using h3) j (by simp at hj;omega)
     simpa using this
   ·rw[if_neg hz]at h3;simp at h3
  ·rintro⟨⟨⟨h1,h2⟩,h3⟩,h4⟩
   refine⟨h2,by simp,?_⟩
   rw[nsize_cons,if_pos (by simpa using h3)]
   have:=hr.2 (fun j hj=>by have:=h4 (j+1) (by simp;omega);simpa using this)
   simp[this]
theorem isLit_len {l:List Int} (h:isLit l=true):l.length=3∨l.length=4:=by
 unfold isLit at h
 split at h
 ·left;rfl
 ·right;rfl
 ·cases h
theorem isLit_mid (m:List Int):isLit (39::(m++[39]))=isSign m:=by
 match m with
 | []=>rfl
 | [b]=>simp[isLit,isSign,Bool.and_assoc]
 | [b,c] =>
  by_cases h1:b=92
  ·subst h1;simp[isLit,isSign]
  ·have:(b==92)=false:=by simpa using h1
   simp[isLit,isSign,this]
 | b::c::d::r =>
  simp only[List.cons_append]
  have:isLit (39::b::c::d::(r++[39]))=false:=by
   unfold isLit
   cases r with
   | nil=>rfl
   | cons e r=>rfl
  rw[this];simp[isSign]
theorem isLit_bare (l:List Int) (h:isLit l=true):∃m,l=39::(m++[39]):=by
 match l,h with
 | [a,b,c],h =>
  simp[isLit]at h
  obtain⟨⟨⟨⟨⟨rfl,rfl⟩,_⟩,_⟩,_⟩,_⟩:=h
  exact⟨[b],rfl⟩
 | [a,b,c,d],h =>
  simp[isLit]at h
  obtain⟨⟨⟨rfl,rfl⟩,_⟩,_⟩:=h
  exact⟨[b,c],rfl⟩
theorem name_lit (l:List Int) (h:isName l=true):isLit l=false:=by
 rcases hl:isLit l with _|_
 ·rfl
 ·obtain⟨m,rfl⟩:=isLit_bare l hl
  rw[isName_iff]at h
  have:head 39=false:=by decide
  simp[this]at h
def ix (l s:List Int):Int:=Lib.index (Lib.bytesOf l) (Lib.bytesOf s)
def pre (l s:List Int):Bool:=Lib.hasPrefix (Lib.bytesOf l) (Lib.bytesOf s)
abbrev P3:=Int×Nat×Int
def skip (l:List Int) (f:Nat) (s:List Int):P3:=if ix (l.drop f) s<0 then(0,0,4) else(0,f+(ix (l.drop f) s).toNat+s.length,0)
def line (l:List Int):List Int:=if 0≤ix l [10] then l.take (ix l [10]).toNat else l
def comment (l:List Int):P3:=if pre l [47,42] then skip l 2 [42,47] else if pre l [47,47] then(0,(line l).length,0) else(0,0,3)
def quoted (q:Int):List Int→Option Nat
 | []=>none
 | z::r=>if z=q then some 1 else if z=92 then(match r with | []=>none|_::r'=>(quoted q r').map (· + 2)) else(quoted q r).map (· + 1)
def ostep (z o:Int):Int:=if z=123 then o+1 else if z=125 then o-1 else o
def act:Nat→List Int→Int→Option Nat
 | 0,_,_=>none
 | f+1,l,o=>match l with
  | []=>none
  | z::r=>if z=39∨z=34 then(match quoted z r with|none=>none|some n=>(act f (r.drop n) o).map (· + (n+1)))
   else if 0<ostep z o then(act f r (ostep z o)).map (· + 1) else some 1
def action (l:List Int):P3:=match act (l.length+1) l 0 with|none=>(0,0,4)|some n=>(0,n,0)
def wkind (l:List Int):Int:=if l=[116,111,107,101,110] then 3 else if l=[108,101,102,116] then 4 else if l=[114,105,103,104,116] then 5 else if l=[110,111,110,97,115,115,111,99] then 6 else if l=[115,116,97,114,116] then 7 else if l=[112,114,101,99] then 8 else 0
def psize (l:List Int):Nat:=1+run small (l.drop 1)
def percent (l:List Int):P3:=if pre l [37,37] then(9,2,0) else if pre l [37,123] then skip l 2 [37,125] else if wkind ((l.take (psize l)).drop 1)=0 then(0,0,3) else(wkind ((l.take (psize l)).drop 1),psize l,0)
def literal (l:List Int):P3:=if isLit (l.take 3) then(2,3,0) else if isLit (l.take 4) then(2,4,0) else if isLit (l++[39])||isLit (l++[110,39]) then(0,0,4) else(0,0,3)
def name (l:List Int):P3:=if nsize l=0 then(0,0,3) else if 20<nsize l then(0,0,5) else(1,nsize l,0)
def piece (l:List Int):P3 :=
 let z:=l.getD 0 0
 if z=32∨z=9∨z=10∨z=13 then(0,1,0) else if z=47 then comment l else if z=60 then skip (line l) 1 [62] else if z=123 then action l else if z=37 then percent l
 else if z=39 then literal l else if z=58 then(10,1,0) else if z=124 then(11,1,0) else if z=59 then(12,1,0) else name l
theorem zaV (l:List Int):(Lib.bytesOf l).length=l.length:=by simp[Lib.bytesOf]
theorem ix_ge (l s:List Int):-1≤ix l s:=Lib.index_ge _ _
theorem ix_room (l s:List Int) (h:0≤ix l s):(ix l s).toNat+s.length≤l.length:=by
 have:=Lib.index_room _ _ h
 rw[zaV,zaV]at this
 unfold ix at *
 omega
theorem line_le (l:List Int):(line l).length≤l.length:=by
 unfold line;split
 ·rw[List.length_take];omega
 ·exact Nat.le_refl _
theorem pre_len (l s:List Int) (h:pre l s=true):s.length≤l.length:=by
 have:=List.IsPrefix.length_le (List.isPrefixOf_iff_prefix.1 h)
 rwa [zaV,zaV]at this
theorem quoted_le (q:Int):∀(l:List Int) (n:Nat),quoted q l=some n→1≤n∧n≤l.length
 | [],n,h=>by simp[quoted]at h
 | [z],n,h=>by
  unfold quoted at h
  by_cases h1:z=q
  ·rw[if_pos h1]at h;simp at h;subst h;simp
  ·rw[if_neg h1]at h
   by_cases h2:z=92
   ·rw[if_pos h2]at h;simp at h
   ·rw[if_neg h2]at h;simp[quoted]at h
 | z::y::r,n,h=>by
  unfold quoted at h
  by_cases h1:z=q
  ·rw[if_pos h1]at h;simp at h;subst h;simp
  ·rw[if_neg h1]at h
   by_cases h2:z=92
   ·rw[if_pos h2]at h
    simp only[Option.map_eq_some_iff]at h
    obtain⟨m,hm,rfl⟩:=h
    have:=quoted_le q r m hm
    simp;omega
   ·rw[if_neg h2]at h
    rw[Option.map_eq_some_iff]at h
    obtain⟨m,hm,rfl⟩:=h
    have:=quoted_le q (y::r) m hm
    simp at this ⊢;omega
theorem ziA:∀(f:Nat) (l:List Int) (o:Int) (n:Nat),act f l o=some n→1≤n∧n≤l.length
 | 0,_,_,_,h=>by simp[act]at h
 | f+1,[],o,n,h=>by simp[act]at h
 | f+1,z::r,o,n,h=>by
  unfold act at h
  simp only at h
  split at h
  ·split at h
   ·cases h
   ·rename_i m hq
    rw[Option.map_eq_some_iff]at h
    obtain⟨k,hk,rfl⟩:=h
    have h1:=ziA f _ _ _ hk
    have h2:=quoted_le z r m hq
    rw[List.length_drop]at h1
    simp;omega
  ·generalize ostep z o=o' at h
   by_cases h0:0<o'
   ·rw[if_pos h0,Option.map_eq_some_iff]at h
    obtain⟨k,hk,rfl⟩:=h
    have h1:=ziA f _ _ _ hk
    simp;omega
   ·rw[if_neg h0]at h
    injection h with h
    subst h;simp
def Fine (l:List Int) (x:P3):Prop:=(x.2.2=0→1≤x.2.1∧x.2.1≤l.length∧(x.1=1→isName (l.take x.2.1)=true)∧(x.1=2→isLit (l.take x.2.1)=true))∧0≤x.1∧x.1≤12∧0≤x.2.2∧x.2.2≤5∧x.2.1≤l.length
theorem zaI (l:List Int) (e:Int) (h:1≤e) (h2:e≤5):Fine l (0,0,e):=by
 refine⟨fun h'=>?_,by omega,by omega,by simp;omega,by simpa using h2,by simp⟩
 simp at h';omega
theorem zak (l:List Int) (k:Int) (n:Nat) (h1:1≤n) (h2:n≤l.length) (h3:k≠1) (h4:k≠2) (h5:0≤k) (h6:k≤12):Fine l (k,n,0) :=
 ⟨fun _=>⟨h1,h2,fun h=>absurd h h3,fun h=>absurd h h4⟩,h5,h6,by simp,by simp,h2⟩
theorem zcg (l m:List Int) (f:Nat) (s:List Int) (hm:m.length≤l.length) (hf:f≤m.length) (hs:1≤s.length):Fine l (skip m f s):=by
 unfold skip
 have h1:=ix_ge (m.drop f) s
 have h2:=ix_room (m.drop f) s
 rw[List.length_drop]at h2
 split
 ·exact zaI _ _ (by omega) (by omega)
 ·exact zak _ _ _ (by omega) (by omega) (by omega) (by omega) (by omega) (by omega)
theorem line_pos (l:List Int) (h:0<l.length) (hb:K.Bytes l) (hz:l.getD 0 0≠10):1≤(line l).length:=by
 unfold line
 have hr:=ix_room l [10]
 split
 ·rename_i h0
  have:=hr h0
  rw[List.length_take]
  have hne:ix l [10]≠0:=by
   intro he
   cases l with
   | nil=>simp at h
   | cons z r =>
    have hz':z≠10:=by simpa using hz
    have hb':=hb.hd
    unfold ix at he
    simp only[Lib.bytesOf,List.map_cons,List.map_nil]at he
    unfold Lib.index at he
    have hne:([UInt8.ofNat (10:Int).toNat].isPrefixOf (UInt8.ofNat z.toNat::List.map (fun n=>UInt8.ofNat n.toNat) r))=false:=by
     simp only[List.isPrefixOf,Bool.and_true]
     rw[beq_eq_false_iff_ne]
     intro e
     have:=congrArg UInt8.toNat e
     simp at this
     omega
    rw[hne]at he
    simp at he
    split at he
    ·cases he
    ·have:=Lib.index_ge (List.map (fun n=>UInt8.ofNat n.toNat) r) [10]
     omega
  omega
 ·omega
theorem wkind_bd (l:List Int):0≤wkind l∧wkind l≤8∧(wkind l≠0→3≤wkind l):=by
 unfold wkind
 repeat' split
 all_goals omega
theorem psize_le (l:List Int) (h:0<l.length):psize l≤l.length:=by
 unfold psize
 have:=run_le small (l.drop 1)
 rw[List.length_drop]at this
 omega
theorem piece_fine (l:List Int) (h:0<l.length) (hb:K.Bytes l):Fine l (piece l):=by
 unfold piece
 simp only
 have hlp:=line_pos l h hb
 have hll:=line_le l
 split
 ·exact zak _ _ _ (by omega) (by omega) (by omega) (by omega) (by omega) (by omega)
 split
 ·rename_i hz
  unfold comment
  split
  ·rename_i hp
   have:=pre_len _ _ hp
   exact zcg l l 2 _ (by omega) (by simpa using this) (by simp)
  split
  ·exact zak _ _ _ (hlp (by omega)) hll (by omega) (by omega) (by omega) (by omega)
  ·exact zaI _ _ (by omega) (by omega)
 split
 ·exact zcg l _ 1 _ hll (hlp (by omega)) (by simp)
 split
 ·unfold action
  split
  ·exact zaI _ _ (by omega) (by omega)
  ·rename_i n hn
   have:=ziA _ _ _ _ hn
   exact zak _ _ _ this.1 this.2 (by omega) (by omega) (by omega) (by omega)
 split
 ·unfold percent
  have hw:=wkind_bd ((l.take (psize l)).drop 1)
  split
  ·rename_i hp
   have:=pre_len _ _ hp
   exact zak _ _ _ (by omega) (by simpa using this) (by omega) (by omega) (by omega) (by omega)
  split
  ·rename_i hp
   have:=pre_len _ _ hp
   exact zcg l l 2 _ (by omega) (by simpa using this) (by simp)
  split
  ·exact zaI _ _ (by omega) (by omega)
  ·rename_i hk
   have h3:=hw.2.2 hk
   exact zak _ _ _ (by unfold psize;omega) (psize_le l h) (by omega) (by omega) (by omega) (by omega)
 split
 ·unfold literal
  split
  ·rename_i hk
   have hln:=isLit_len hk
   rw[List.length_take]at hln
   exact⟨fun _=>⟨by simp,by simp;omega,fun h=>by simp at h,fun _=>hk⟩,by simp,by simp,by simp,by simp,by simp;omega⟩
  split
  ·rename_i h3 hk
   have hln:=isLit_len hk
   rw[List.length_take]at hln
   have h4:4≤l.length:=by
    rcases Nat.lt_or_ge l.length 4 with h5|h5
    ·have e1:l.take 4=l:=List.take_of_length_le (by omega)
     have e2:l.take 3=l:=List.take_of_length_le (by omega)
     rw[e1]at hk;rw[e2]at h3
     exact absurd hk h3
    ·exact h5
   exact⟨fun _=>⟨by simp,by simp;omega,fun h=>by simp at h,fun _=>hk⟩,by simp,by simp,by simp,by simp,by simp;omega⟩
  split
  ·exact zaI _ _ (by omega) (by omega)
  ·exact zaI _ _ (by omega) (by omega)
 split
 ·exact zak _ _ _ (by omega) (by omega) (by omega) (by omega) (by omega) (by omega)
 split
 ·exact zak _ _ _ (by omega) (by omega) (by omega) (by omega) (by omega) (by omega)
 split
 ·exact zak _ _ _ (by omega) (by omega) (by omega) (by omega) (by omega) (by omega)
 ·unfold name
  have hn:=zi9 l
  split
  ·exact zaI _ _ (by omega) (by omega)
  split
  ·exact zaI _ _ (by omega) (by omega)
  ·rename_i h1 h2
   refine⟨fun _=>⟨by simp;omega,by simpa using hn,fun _=>?_,fun h=>by simp at h⟩,by simp,by simp,by simp,by simp,by simpa using hn⟩
   simp only
   unfold isName
   have e:min (nsize l) l.length=nsize l:=by omega
   rw[zgq l _ (Nat.le_refl _),List.length_take,e]
   simp only[Bool.and_eq_true,decide_eq_true_eq]
   exact⟨by omega,by omega,trivial⟩
end T
end Go.Proofs.YtkfelkpilaipnaaGreatDoor
namespace Go.Proofs
open Go.Shelf
def Tryz.lays169_ren:Go.Shelf.Ren:=⟨fun|169=>41|n=>n,fun|70=>66|9=>9|0=>0|72=>68|37=>40|127=>110|3=>3|5=>5|n=>n,fun|n=>n⟩
theorem Tryz.lays169:Go.Proofs.Lays.n169 Tryz.prog Tryz.lays169_ren:={
 mixed:=by kernel_rfl
 f169:=Tryz.func41.trans (congrArg some (by kernel_rfl))
 t0:=Tryz.underlying0
 a0:=Tryz.isAgg0
 z0:=Tryz.sizeOf0
 v0:=Tryz.zeroValue0
 t3:=Tryz.underlying3
 a3:=Tryz.isAgg3
 z3:=Tryz.sizeOf3
 v3:=Tryz.zeroValue3
 t9:=Tryz.underlying9
 a9:=Tryz.isAgg9
 z9:=Tryz.sizeOf9
 v9:=Tryz.zeroValue9
 t37:=Tryz.underlying40
 a37:=Tryz.isAgg40
 z37:=Tryz.sizeOf40
 v37:=Tryz.zeroValue40
 t70:=Tryz.underlying66
 a70:=Tryz.isAgg66
 z70:=Tryz.sizeOf66
 v70:=Tryz.zeroValue66
 t72:=Tryz.underlying68
 a72:=Tryz.isAgg68
 z72:=Tryz.sizeOf68
 v72:=Tryz.zeroValue68
 t127:=Tryz.underlying110
 a127:=Tryz.isAgg110
 z127:=Tryz.sizeOf110
 v127:=Tryz.zeroValue110}
theorem Tryz.Builder_Extra_169:Builder.Extra Tryz.prog Tryz.lays169_ren:={
 sizeBuilder:=by kernel_rfl
 liesBuilder:=by kernel_rfl
 t5:=Tryz.underlying5
 a5:=Tryz.isAgg5
 z5:=Tryz.sizeOf5
 v5:=Tryz.zeroValue5
 infoByte:=by kernel_rfl
 cellsByte:=by kernel_rfl
 sizeByte:=by kernel_rfl
 neB5:=by decide}
open Go.RowKit in
theorem Tryz.Builder_String_any (B b:Nat) (l:List UInt8) (w:World) (h:Lib.IsBuilder 68 5 B b (Lib.byteCells l) w) (hBw:B≤w.heap.size) :
  Calls Tryz.prog 41 #[.pointer (some ⟨b,0,none⟩)] w fun e w'=>e=.returned (.string ⟨l.toArray⟩)∧Below B w w':=Any.Builder_String_any Tryz.lays169 Tryz.Builder_Extra_169 B b l w h hBw
def Tryz.lays156_ren:Go.Shelf.Ren:=⟨fun|156=>39|165=>71|166=>38|169=>41|240=>70|241=>107|276=>106|277=>144|n=>n,fun|31=>23|9=>9|3=>3|4=>4|0=>0|20=>20|72=>68|76=>71|70=>66|37=>40|75=>70|127=>110|164=>152|5=>5|80=>75|n=>n,fun|n=>n⟩
theorem Tryz.lays156:Go.Proofs.Lays.n156 Tryz.prog Tryz.lays156_ren:={
 mixed:=by kernel_rfl
 f156:=Tryz.func39.trans (congrArg some (by kernel_rfl))
 f165:=Tryz.func71.trans (congrArg some (by kernel_rfl))
 f166:=Tryz.func38.trans (congrArg some (by kernel_rfl))
 f169:=Tryz.func41.trans (congrArg some (by kernel_rfl))
 f240:=Tryz.func70.trans (congrArg some (by kernel_rfl))
 f241:=Tryz.func107.trans (congrArg some (by kernel_rfl))
 f276:=Tryz.func106.trans (congrArg some (by kernel_rfl))
 f277:=Tryz.func144.trans (congrArg some (by kernel_rfl))
 t0:=Tryz.underlying0
 a0:=Tryz.isAgg0
 z0:=Tryz.sizeOf0
 v0:=Tryz.zeroValue0
 t3:=Tryz.underlying3
 a3:=Tryz.isAgg3
 z3:=Tryz.sizeOf3
 v3:=Tryz.zeroValue3
 t4:=Tryz.underlying4
 a4:=Tryz.isAgg4
 z4:=Tryz.sizeOf4
 v4:=Tryz.zeroValue4
 t9:=Tryz.underlying9
 a9:=Tryz.isAgg9
 z9:=Tryz.sizeOf9
 v9:=Tryz.zeroValue9
 t20:=Tryz.underlying20
 a20:=Tryz.isAgg20
 z20:=Tryz.sizeOf20
 v20:=Tryz.zeroValue20
 t31:=Tryz.underlying23
 a31:=Tryz.isAgg23
 z31:=Tryz.sizeOf23
 v31:=Tryz.zeroValue23
 t37:=Tryz.underlying40
 a37:=Tryz.isAgg40
 z37:=Tryz.sizeOf40
 v37:=Tryz.zeroValue40
 t70:=Tryz.underlying66
 a70:=Tryz.isAgg66
 z70:=Tryz.sizeOf66
 v70:=Tryz.zeroValue66
 t72:=Tryz.underlying68
 a72:=Tryz.isAgg68
 z72:=Tryz.sizeOf68
 v72:=Tryz.zeroValue68
 t75:=Tryz.underlying70
 a75:=Tryz.isAgg70
 z75:=Tryz.sizeOf70
 v75:=Tryz.zeroValue70
 t76:=Tryz.underlying71
 a76:=Tryz.isAgg71
 z76:=Tryz.sizeOf71
 v76:=Tryz.zeroValue71
 t127:=Tryz.underlying110
 a127:=Tryz.isAgg110
 z127:=Tryz.sizeOf110
 v127:=Tryz.zeroValue110
 t164:=Tryz.underlying152
 a164:=Tryz.isAgg152
 z164:=Tryz.sizeOf152
 v164:=Tryz.zeroValue152}
theorem Tryz.Builder_Extra_156:Builder.Extra Tryz.prog Tryz.lays156_ren:={
 sizeBuilder:=by kernel_rfl
 liesBuilder:=by kernel_rfl
 t5:=Tryz.underlying5
 a5:=Tryz.isAgg5
 z5:=Tryz.sizeOf5
 v5:=Tryz.zeroValue5
 infoByte:=by kernel_rfl
 cellsByte:=by kernel_rfl
 sizeByte:=by kernel_rfl
 neB5:=by decide}
open Go.RowKit in
theorem Tryz.strings_Join (bk o c:Nat) (xs:List ByteArray) (sep:ByteArray) (w:World) (hcells:∀(j:Nat) x,xs[j]?=some x→w.cell? ⟨bk,o+j,none⟩=some (.string x)) (hbk:bk<w.heap.size) (hN:xs.length≤140737488355328) (hcap:xs.length≤c) (hlen:(Lib.join (xs.map (·.data.toList)) sep.data.toList).length≤140737488355328) :
  Calls Tryz.prog 39 #[.slice (some ⟨bk,o,none⟩) xs.length c,.string sep] w fun e w'=>e=.returned (.string ⟨(Lib.join (xs.map (·.data.toList)) sep.data.toList).toArray⟩)∧Below w.heap.size w w':=Any.strings_Join Tryz.lays156 Tryz.Builder_Extra_156 bk o c xs sep w hcells hbk hN hcap hlen
def Tryz.lays103_ren:Go.Shelf.Ren:=⟨fun|103=>138|210=>163|206=>173|n=>n,fun|9=>9|4=>4|24=>180|3=>3|n=>n,fun|n=>n⟩
theorem Tryz.lays103:Go.Proofs.Lays.n103 Tryz.prog Tryz.lays103_ren:={
 mixed:=by kernel_rfl
 f103:=Tryz.func138.trans (congrArg some (by kernel_rfl))
 f206:=Tryz.func173.trans (congrArg some (by kernel_rfl))
 f210:=Tryz.func163.trans (congrArg some (by kernel_rfl))
 t3:=Tryz.underlying3
 a3:=Tryz.isAgg3
 z3:=Tryz.sizeOf3
 v3:=Tryz.zeroValue3
 t4:=Tryz.underlying4
 a4:=Tryz.isAgg4
 z4:=Tryz.sizeOf4
 v4:=Tryz.zeroValue4
 t9:=Tryz.underlying9
 a9:=Tryz.isAgg9
 z9:=Tryz.sizeOf9
 v9:=Tryz.zeroValue9
 t24:=Tryz.underlying180
 a24:=Tryz.isAgg180
 z24:=Tryz.sizeOf180
 v24:=Tryz.zeroValue180}
open Go.RowKit in
theorem Tryz.strings_CutPrefix (s p:ByteArray) (w:World) :
  Calls Tryz.prog 138 #[.string s,.string p] w fun e w'=>e=.returned (.tuple #[.string ⟨(Lib.trimPrefix s.data.toList p.data.toList).toArray⟩,.bool (Lib.hasPrefix s.data.toList p.data.toList)])∧w'=w:=Any.strings_CutPrefix Tryz.lays103 s p w
def Tryz.lays104_ren:Go.Shelf.Ren:=⟨fun|104=>139|211=>164|207=>174|n=>n,fun|9=>9|4=>4|24=>180|3=>3|n=>n,fun|n=>n⟩
theorem Tryz.lays104:Go.Proofs.Lays.n104 Tryz.prog Tryz.lays104_ren:={
 mixed:=by kernel_rfl
 f104:=Tryz.func139.trans (congrArg some (by kernel_rfl))
 f207:=Tryz.func174.trans (congrArg some (by kernel_rfl))
 f211:=Tryz.func164.trans (congrArg some (by kernel_rfl))
 t3:=Tryz.underlying3
 a3:=Tryz.isAgg3
 z3:=Tryz.sizeOf3
 v3:=Tryz.zeroValue3
 t4:=Tryz.underlying4
 a4:=Tryz.isAgg4
 z4:=Tryz.sizeOf4
 v4:=Tryz.zeroValue4
 t9:=Tryz.underlying9
 a9:=Tryz.isAgg9
 z9:=Tryz.sizeOf9
 v9:=Tryz.zeroValue9
 t24:=Tryz.underlying180
 a24:=Tryz.isAgg180
 z24:=Tryz.sizeOf180
 v24:=Tryz.zeroValue180}
open Go.RowKit in
theorem Tryz.strings_CutSuffix (s p:ByteArray) (w:World) (hs:s.size≤9223372036854775807) :
  Calls Tryz.prog 139 #[.string s,.string p] w fun e w'=>e=.returned (.tuple #[.string ⟨(Lib.trimSuffix s.data.toList p.data.toList).toArray⟩,.bool (Lib.hasSuffix s.data.toList p.data.toList)])∧w'=w:=Any.strings_CutSuffix Tryz.lays104 s p w hs
def Tryz.lays185_ren:Go.Shelf.Ren:=⟨fun|185=>147|187=>167|115=>166|253=>168|224=>169|254=>170|255=>175|291=>176|n=>n,fun|37=>40|3=>3|4=>4|0=>0|5=>5|46=>114|9=>9|146=>201|51=>33|n=>n,fun|1=>1|n=>n⟩
theorem Tryz.lays185:Go.Proofs.Lays.n185 Tryz.prog Tryz.lays185_ren:={
 mixed:=by kernel_rfl
 f115:=Tryz.func166.trans (congrArg some (by kernel_rfl))
 f185:=Tryz.func147.trans (congrArg some (by kernel_rfl))
 f187:=Tryz.func167.trans (congrArg some (by kernel_rfl))
 f224:=Tryz.func169.trans (congrArg some (by kernel_rfl))
 f253:=Tryz.func168.trans (congrArg some (by kernel_rfl))
 f254:=Tryz.func170.trans (congrArg some (by kernel_rfl))
 f255:=Tryz.func175.trans (congrArg some (by kernel_rfl))
 f291:=Tryz.func176.trans (congrArg some (by kernel_rfl))
 t0:=Tryz.underlying0
 a0:=Tryz.isAgg0
 z0:=Tryz.sizeOf0
 v0:=Tryz.zeroValue0
 t3:=Tryz.underlying3
 a3:=Tryz.isAgg3
 z3:=Tryz.sizeOf3
 v3:=Tryz.zeroValue3
 t4:=Tryz.underlying4
 a4:=Tryz.isAgg4
 z4:=Tryz.sizeOf4
 v4:=Tryz.zeroValue4
 t5:=Tryz.underlying5
 a5:=Tryz.isAgg5
 z5:=Tryz.sizeOf5
 v5:=Tryz.zeroValue5
 t9:=Tryz.underlying9
 a9:=Tryz.isAgg9
 z9:=Tryz.sizeOf9
 v9:=Tryz.zeroValue9
 t37:=Tryz.underlying40
 a37:=Tryz.isAgg40
 z37:=Tryz.sizeOf40
 v37:=Tryz.zeroValue40
 t46:=Tryz.underlying114
 a46:=Tryz.isAgg114
 z46:=Tryz.sizeOf114
 v46:=Tryz.zeroValue114
 t51:=Tryz.underlying33
 a51:=Tryz.isAgg33
 z51:=Tryz.sizeOf33
 v51:=Tryz.zeroValue33
 t146:=Tryz.underlying201
 a146:=Tryz.isAgg201
 z146:=Tryz.sizeOf201
 v146:=Tryz.zeroValue201
 g1:=by kernel_rfl}
open Go.Proofs Go.RowKit Go.Lib in
theorem Tryz.bytes_Index_at (a1 a2:Addr) (n c1 k c2:Nat) (xs ys:List Int) (m:Int) (w:World) (hx:xs.length=n) (hy:ys.length=k) (hr1:∀x∈xs,0≤x∧x<256) (hr2:∀y∈ys,0≤y∧y<256) (hc1:∀i,i<n→w.cell? (a1.add i)=some (.int .u8 (xs.getD i 0))) (hc2:∀i,i<k→w.cell? (a2.add i)=some (.int .u8 (ys.getD i 0))) (hcap:n≤c1) (hs:n<4294967281) (hk:k≤9223372036854775807) (hm:w.cell? ⟨1,0,none⟩=some (.int .i64 m)) :
  Calls Tryz.prog 147 #[.slice (some a1) n c1,.slice (some a2) k c2] w fun e w'=>e=.returned (.int .i64 (Lib.index (Lib.bytesOf xs) (Lib.bytesOf ys)))∧∃q,w'=w.drewN q:=Any.bytes_Index_at Tryz.lays185 a1 a2 n c1 k c2 xs ys m w hx hy hr1 hr2 hc1 hc2 hcap hs hk hm
def Tryz.laysM185_ren:Go.Shelf.Ren:=⟨fun|185=>147|187=>167|115=>166|253=>168|224=>169|254=>170|255=>175|291=>176|n=>n,fun|37=>40|3=>3|4=>4|0=>0|5=>5|46=>114|9=>9|146=>201|51=>33|n=>n,fun|1=>1|n=>n⟩
theorem Tryz.laysM185:Go.Proofs.LaysM.n185 Tryz.prog Tryz.laysM185_ren:={
 mixed:=by kernel_rfl
 f115:=Tryz.func166.trans (congrArg some (by kernel_rfl))
 f185:=Tryz.func147.trans (congrArg some (by kernel_rfl))
 f187:=Tryz.func167.trans (congrArg some (by kernel_rfl))
 f224:=Tryz.func169.trans (congrArg some (by kernel_rfl))
 f253:=Tryz.func168.trans (congrArg some (by kernel_rfl))
 f254:=Tryz.func170.trans (congrArg some (by kernel_rfl))
 f255:=Tryz.func175.trans (congrArg some (by kernel_rfl))
 f291:=Tryz.func176.trans (congrArg some (by kernel_rfl))
 t0:=Tryz.underlying0
 a0:=Tryz.isAgg0
 z0:=Tryz.sizeOf0
 v0:=Tryz.zeroValue0
 t3:=Tryz.underlying3
 a3:=Tryz.isAgg3
 z3:=Tryz.sizeOf3
 v3:=Tryz.zeroValue3
 t4:=Tryz.underlying4
 a4:=Tryz.isAgg4
 z4:=Tryz.sizeOf4
 v4:=Tryz.zeroValue4
 t5:=Tryz.underlying5
 a5:=Tryz.isAgg5
 z5:=Tryz.sizeOf5
 v5:=Tryz.zeroValue5
 t9:=Tryz.underlying9
 a9:=Tryz.isAgg9
 z9:=Tryz.sizeOf9
 v9:=Tryz.zeroValue9
 t37:=Tryz.underlying40
 a37:=Tryz.isAgg40
 z37:=Tryz.sizeOf40
 v37:=Tryz.zeroValue40
 t46:=Tryz.underlying114
 a46:=Tryz.isAgg114
 z46:=Tryz.sizeOf114
 v46:=Tryz.zeroValue114
 t51:=Tryz.underlying33
 a51:=Tryz.isAgg33
 z51:=Tryz.sizeOf33
 v51:=Tryz.zeroValue33
 t146:=Tryz.underlying201
 a146:=Tryz.isAgg201
 z146:=Tryz.sizeOf201
 v146:=Tryz.zeroValue201
 g1:=by kernel_rfl
 i0:=by kernel_rfl
 i3:=by kernel_rfl
 i4:=by kernel_rfl
 i5:=by kernel_rfl
 i9:=by kernel_rfl
 i37:=by kernel_rfl
 i46:=by kernel_rfl
 i51:=by kernel_rfl
 i146:=by kernel_rfl
 m1:=by kernel_rfl
 s1_3:=fun w h=>Go.Proofs.cell_of_shapedOpen_int (zero:=#[.int .i64 0]) (t:=3) h (of_decide_eq_true (by kernel_rfl)) (by kernel_rfl) rfl (by kernel_rfl) (by kernel_rfl) Tryz.underlying3}
def Tryz.laysnb116_ren:Go.Shelf.Ren:=⟨fun|116=>146|115=>166|n=>n,fun|37=>40|4=>4|3=>3|9=>9|5=>5|n=>n,fun|n=>n⟩
theorem Tryz.laysnb116:Go.Proofs.Lays.nb116 Tryz.prog Tryz.laysnb116_ren:={
 mixed:=by kernel_rfl
 f115:=Tryz.func166.trans (congrArg some (by kernel_rfl))
 f116:=Tryz.func146.trans (congrArg some (by kernel_rfl))
 t3:=Tryz.underlying3
 a3:=Tryz.isAgg3
 z3:=Tryz.sizeOf3
 v3:=Tryz.zeroValue3
 t4:=Tryz.underlying4
 a4:=Tryz.isAgg4
 z4:=Tryz.sizeOf4
 v4:=Tryz.zeroValue4
 t9:=Tryz.underlying9
 a9:=Tryz.isAgg9
 z9:=Tryz.sizeOf9
 v9:=Tryz.zeroValue9
 t37:=Tryz.underlying40
 a37:=Tryz.isAgg40
 z37:=Tryz.sizeOf40
 v37:=Tryz.zeroValue40
 t5:=Tryz.underlying5
 a5:=Tryz.isAgg5
 z5:=Tryz.sizeOf5
 v5:=Tryz.zeroValue5}
theorem Tryz.bytes_HasPrefix_all (p1 p2:Option Addr) (n c m d:Nat) (xs ys:List Int) (w:World) (hx:xs.length=n) (hy:ys.length=m) (hnc:n≤c) (h1:Lib.BytesIn w p1 n xs) (h2:Lib.BytesIn w p2 m ys) :
  Calls Tryz.prog 146 #[.slice p1 n c,.slice p2 m d] w fun e w'=>e=.returned (.bool (Lib.hasPrefix (Lib.bytesOf xs) (Lib.bytesOf ys)))∧w'=w:=Any.bytes_HasPrefix_all Tryz.laysnb116 p1 p2 n c m d xs ys w hx hy hnc h1 h2
def Tryz.laysSlT4_ren:Go.Shelf.Ren:=⟨fun|4=>148|5=>147|6=>167|7=>166|8=>168|9=>169|10=>170|11=>175|12=>176|n=>n,fun|22=>40|4=>4|3=>3|0=>0|5=>5|29=>114|9=>9|31=>201|30=>33|n=>n,fun|0=>1|n=>n⟩
theorem Tryz.laysSlT4:Go.Proofs.SlLaysT.n4 Tryz.prog Tryz.laysSlT4_ren:={
 mixed:=by kernel_rfl
 f4:=Tryz.func148.trans (congrArg some (by kernel_rfl))
 f5:=Tryz.func147.trans (congrArg some (by kernel_rfl))
 f6:=Tryz.func167.trans (congrArg some (by kernel_rfl))
 f7:=Tryz.func166.trans (congrArg some (by kernel_rfl))
 f8:=Tryz.func168.trans (congrArg some (by kernel_rfl))
 f9:=Tryz.func169.trans (congrArg some (by kernel_rfl))
 f10:=Tryz.func170.trans (congrArg some (by kernel_rfl))
 f11:=Tryz.func175.trans (congrArg some (by kernel_rfl))
 f12:=Tryz.func176.trans (congrArg some (by kernel_rfl))
 t0:=Tryz.underlying0
 a0:=Tryz.isAgg0
 z0:=Tryz.sizeOf0
 v0:=Tryz.zeroValue0
 t3:=Tryz.underlying3
 a3:=Tryz.isAgg3
 z3:=Tryz.sizeOf3
 v3:=Tryz.zeroValue3
 t4:=Tryz.underlying4
 a4:=Tryz.isAgg4
 z4:=Tryz.sizeOf4
 v4:=Tryz.zeroValue4
 t5:=Tryz.underlying5
 a5:=Tryz.isAgg5
 z5:=Tryz.sizeOf5
 v5:=Tryz.zeroValue5
 t9:=Tryz.underlying9
 a9:=Tryz.isAgg9
 z9:=Tryz.sizeOf9
 v9:=Tryz.zeroValue9
 t22:=Tryz.underlying40
 a22:=Tryz.isAgg40
 z22:=Tryz.sizeOf40
 v22:=Tryz.zeroValue40
 t29:=Tryz.underlying114
 a29:=Tryz.isAgg114
 z29:=Tryz.sizeOf114
 v29:=Tryz.zeroValue114
 t30:=Tryz.underlying33
 a30:=Tryz.isAgg33
 z30:=Tryz.sizeOf33
 v30:=Tryz.zeroValue33
 t31:=Tryz.underlying201
 a31:=Tryz.isAgg201
 z31:=Tryz.sizeOf201
 v31:=Tryz.zeroValue201
 g0:=by kernel_rfl}
theorem Tryz.bytes_Cut_all (p1 p2:Option Addr) (n c1 k c2:Nat) (xs ys:List Int) (m:Int) (w:World) (hx:xs.length=n) (hy:ys.length=k) (hr1:∀x∈xs,0≤x∧x<256) (hr2:∀y∈ys,0≤y∧y<256) (h1:Lib.BytesIn w p1 n xs) (h2:Lib.BytesIn w p2 k ys) (hp1:p1=none→c1=0) (hcap:n≤c1) (hs:n<4294967281) (hk:k≤9223372036854775807) (hm:w.cell? ⟨1,0,none⟩=some (.int .i64 m)) :
  Calls Tryz.prog 148 #[.slice p1 n c1,.slice p2 k c2] w fun e w'=>e=.returned (Lib.cutV p1 n c1 k (Lib.index (Lib.bytesOf xs) (Lib.bytesOf ys)))∧∃q,w'=w.drewN q:=Any.bytes_Cut_all Tryz.laysSlT4 p1 p2 n c1 k c2 xs ys m w hx hy hr1 hr2 h1 h2 hp1 hcap hs hk hm
end Go.Proofs
namespace Go.Proofs.YtkfelkpilaipnaaGreatDoor
set_option maxRecDepth 100000
set_option maxHeartbeats 40000000
open Go.RowKit
theorem zcf (z:Int) (w:World) :
  Calls Tryz.prog 150 #[.int .u8 z] w fun e w'=>e=.returned (.bool (T.small z))∧w=w':=by
 unfold T.small
 go_enter Tryz.func150,Tryz.ntmps150
 go_wp2
 all_goals go_ret
 all_goals (refine⟨aG ?_,rfl⟩;first|rfl|(rw[Bool.eq_iff_iff];simp;done)|(rw[Bool.eq_iff_iff];simp;omega))
theorem zjl (z:Int) (w:World) :
  Calls Tryz.prog 141 #[.int .u8 z] w fun e w'=>e=.returned (.bool (T.head z))∧w=w':=by
 have P1:=fun w=>zcf z w
 unfold T.head
 generalize T.small z=s at *
 go_enter Tryz.func141,Tryz.ntmps141
 go_wp2_with fail
 refine(P1 _).mono ?_;rintro _ w' ⟨rfl,rfl⟩
 clear P1
 cases s <;> go_wp2
 all_goals go_ret
 all_goals (refine⟨aG ?_,rfl⟩;first|rfl|(rw[Bool.eq_iff_iff];simp;done)|(rw[Bool.eq_iff_iff];simp;omega))
theorem ziJ (z:Int) (w:World) :
  Calls Tryz.prog 142 #[.int .u8 z] w fun e w'=>e=.returned (.bool (T.tail z))∧w=w':=by
 unfold T.tail
 go_enter Tryz.func142,Tryz.ntmps142
 go_wp2
 all_goals go_ret
 all_goals (refine⟨aG ?_,rfl⟩;first|rfl|(rw[Bool.eq_iff_iff];simp;done)|(rw[Bool.eq_iff_iff];simp;omega))
theorem zaC (z:Int) (w:World) :
  Calls Tryz.prog 77 #[.int .u8 z] w fun e w'=>e=.returned (.bool (T.head z))∧w=w':=by
 unfold T.head T.small
 go_enter Tryz.func77,Tryz.ntmps77
 go_wp2
 all_goals go_ret
 all_goals (refine⟨aG ?_,rfl⟩;first|rfl|(rw[Bool.eq_iff_iff];simp;done)|(rw[Bool.eq_iff_iff];simp;omega))
theorem zeu (z:Int) (w:World) :
  Calls Tryz.prog 78 #[.int .u8 z] w fun e w'=>e=.returned (.bool (T.inName z))∧w=w':=by
 have P1:=fun w=>zaC z w
 unfold T.inName T.tail
 generalize T.head z=s at *
 go_enter Tryz.func78,Tryz.ntmps78
 go_wp2_with fail
 refine(P1 _).mono ?_;rintro _ w' ⟨rfl,rfl⟩
 clear P1
 cases s <;> go_wp2
 all_goals go_ret
 all_goals (refine⟨aG ?_,rfl⟩;first|rfl|(rw[Bool.eq_iff_iff];simp;done)|(rw[Bool.eq_iff_iff];simp;omega))
theorem zen (A:Option Addr) (c B:Nat) (l:List Int) (w:World) (hr:RdB w B A l) (hn:l.length≤5000) :
  Calls Tryz.prog 102 #[.slice A l.length c] w fun e w'=>e=.returned (.int .i64 (T.nsize l))∧w=w':=by
 have HF:=aA (T.nsize_first l)
 go_enter Tryz.func102,Tryz.ntmps102
 go_wp2
 go_loop [3] (fun vi=>∃(k:Nat),k≤l.length∧vi=.int .i64 k∧(k=0∨T.nsize l=k+T.run T.inName (l.drop k))) (fun vi=>l.length-(intOf vi).toNat)
 case atStart=>exact⟨0,by omega,rfl,Or.inl rfl⟩
 case round =>
  obtain⟨k,hk,rfl,hs⟩:=hrel
  have HS:=aA hs
  clear hs
  by_cases hlt:k<l.length
  ·obtain⟨g,o,rfl,_,hcl⟩:=hr (by omega)
   have hcell:=hcl k (by omega)
   have HN:=aA (T.run_next T.inName l k hlt)
   have P1:=aA (fun w=>zjl (l.getD k 0) w)
   have P2:=aA (fun w=>ziJ (l.getD k 0) w)
   have HI:Hid (T.inName (l.getD k 0)=(T.head (l.getD k 0)||T.tail (l.getD k 0))):=aA rfl
   have HF':Hid (k=0→T.nsize l=if T.head (l.getD k 0) then T.run T.inName (l.drop 1)+1 else 0):=aA (by rintro rfl;exact HF.out (by omega))
   clear hcl HF
   generalize l.getD k 0=z at *
   generalize T.head z=hh at *
   generalize T.tail z=tt at *
   generalize T.inName z=ii at *
   go_wp2_with fail
   refine(P1.out _).mono ?_;rintro _ w' ⟨rfl,rfl⟩
   cases hh
   ·by_cases h0:k=0
    ·subst h0
     go_wp2
     go_ret
     exact⟨zah (by have:=HF'.out (by trivial);simp at this;omega),rfl⟩
    ·have h1:0<k:=by omega
     clear h0
     go_wp2_with fail
     refine(P2.out _).mono ?_;rintro _ w' ⟨rfl,rfl⟩
     cases tt
     ·go_wp2
      go_ret
      refine⟨zah ?_,rfl⟩
      have e1:=HS.out;have e2:=HN.out;have e3:=HI.out
      rw[e3]at e2;simp at e2;omega
     ·go_wp2
      go_round
      case rel =>
       refine⟨k+1,by omega,by go_num,Or.inr ?_⟩
       have e1:=HS.out;have e2:=HN.out;have e3:=HI.out
       rw[e3]at e2;simp at e2;omega
      case measure=>simp[intOf];omega
   ·go_wp2
    go_round
    case rel =>
     refine⟨k+1,by omega,by go_num,Or.inr ?_⟩
     have e1:=HS.out;have e2:=HN.out;have e3:=HI.out;have e4:=HF'.out
     rw[e3]at e2
     rcases e1 with rfl|e1
     ·have:=e4 rfl;simp at this;simp;omega
     ·simp at e2;omega
    case measure=>simp[intOf];omega
  ·obtain rfl:k=l.length:=by omega
   clear hr HF
   go_wp2
   go_ret
   refine⟨zah ?_,rfl⟩
   rcases HS.out with h|h
   ·obtain rfl:=List.eq_nil_of_length_eq_zero h
    simp[T.nsize]
   ·rw[T.run_end _ _ _ (Nat.le_refl _)]at h;omega
theorem zae {P:Program} {a:Act} {w:World} {Q:Exit→Act→World→Prop} {c rest:Code} (l:Nat) (J:Act→World→Prop) (μ:Act→World→Nat) (hf:findLabel c l=some (Code.skip.seq rest))
  (pass:∀a w,J a w→rest.wp P (Exit.jump l (fun a' w'=>J a' w'∧μ a' w'<μ a w) Q) a w)
  (first:(∀a w,J a w→rest.wp P (Exit.jump l J Q) a w)→c.wp P (Exit.jump l J Q) a w):(Code.scope c).wp P Q a w:=by
 refine wp_scope_jumps l J μ hf (first fun a w h=>?_) fun a w h=>wp_seq (wp_skip (pass a w h))
 refine Code.wp_mono (fun e a' w' hq=>?_) (pass a w h)
 cases e
 case goto l'=>exact⟨hq.1,hq.2.1⟩
 all_goals exact hq
def dropA (A:Option Addr) (c k:Nat):Option Addr:=if c=k then A else A.map fun x=>x.add k
theorem zgG {A:Option Addr} (h:A≠none) (c k:Nat):dropA A c k≠none:=by
 unfold dropA
 split
 ·exact h
 ·cases A with
  | none=>exact absurd rfl h
  | some x=>simp
theorem RdB.dropA {w:World} {B c:Nat} {A:Option Addr} {l:List Int} (h:RdB w B A l) (hc:l.length≤c) (k:Nat):RdB w B (dropA A c k) (l.drop k):=by
 intro hn
 rw[List.length_drop]at hn
 obtain⟨g,o,rfl,hg,hcl⟩:=h (by omega)
 refine⟨g,o+k,?_,hg,fun j hj=>?_⟩
 ·have e:((⟨g,o,none⟩:Addr).add k)=⟨g,o+k,none⟩:=by unfold Addr.add;by_cases h0:k=0 <;> simp[h0]
  unfold Go.Proofs.YtkfelkpilaipnaaGreatDoor.dropA
  rw[if_neg (by omega),Option.map_some,e]
 ·rw[List.length_drop]at hj
  rw[show o+k+j=o+(k+j) by omega,hcl (k+j) (by omega),L.gd_lt (by omega:k+j<l.length),L.gd_lt (by rw[List.length_drop];exact hj),List.getElem_drop]
theorem zbA (w:World) (A:Option Addr) (c n k:Nat) (hk:k≤n):(Instr.sliceAt 40 (.slice A n c) (some (.int .i64 k)) none none).run Tryz.prog w=.ok (.slice (dropA A c k) (n-k) (c-k)) w:=by
 rw[run_sliceAt_slice _ _ _ _ _ _ (by kernel_rfl),run_slice_l _ _ _ _ _ (by kernel_rfl) .i64 (k:Int) (by omega) (by omega)]
 have hs:(sizeOf (Tryz.prog.elem 40)).run Tryz.prog w=.ok 1 w:=by kernel_rfl
 rw[hs]
 simp[Result.andThen,sliced,dropA]
def quoV (r:Option Nat):Value:=match r with|none=>.tuple #[.int .i64 0,.int .i64 4]|some m=>.tuple #[.int .i64 ((m+1:Nat):Int),.int .i64 0]
theorem zkk (A:Option Addr) (c B:Nat) (l:List Int) (w:World) (hr:RdB w B A l) (h0:0<l.length) (hn:l.length≤5000) :
  Calls Tryz.prog 149 #[.slice A l.length c] w fun e w'=>e=.returned (quoV (T.quoted (l.getD 0 0) (l.drop 1)))∧w=w':=by
 generalize hR:T.quoted (l.getD 0 0) (l.drop 1)=R
 have HR:=aA hR
 clear hR
 go_enter Tryz.func149,Tryz.ntmps149
 go_wp2
 refine zae 0 (fun a' w'=>w'=w∧∃k:Nat,1≤k∧k≤l.length+1∧R=(T.quoted (l.getD 0 0) (l.drop k)).map (· + (k-1))∧∃(u1 u5 u6 u7 u8 u9 u10 u11 u12 u13 u14 u15 u16 u17 u18 u19 u20 u21 u22 u23 u24 u25:Value),a' = {tmps:=#[.slice A l.length c,u1,.int .i64 0,.int .i64 0,.int .i64 k,u5,u6,u7,u8,u9,u10,u11,u12,u13,u14,u15,u16,u17,u18,u19,u20,u21,u22,u23,u24,u25],defers:=[]}) (fun a' _=>l.length+2-(intOf (a'.tmps.getD 4 undef)).toNat) rfl ?_ ?_
 ·rintro a' w' ⟨rfl,k,hk,hk2,hs,u1,u5,u6,u7,u8,u9,u10,u11,u12,u13,u14,u15,u16,u17,u18,u19,u20,u21,u22,u23,u24,u25,rfl⟩
  have HS:=aA hs
  clear hs
  by_cases hlt:k<l.length
  ·obtain⟨g,o,rfl,_,hcl⟩:=hr (by omega)
   have hcell:=hcl k (by omega)
   have hcell0:w'.cell? ⟨g,o,none⟩=some (.int .u8 (l.getD 0 0)):=hcl 0 (by omega)
   have HD:=aA (L.cons_drop l k hlt)
   have HN:Hid (T.quoted (l.getD 0 0) (l.drop k)=if l.getD k 0=l.getD 0 0 then some 1 else if l.getD k 0=92 then(T.quoted (l.getD 0 0) (l.drop (k+2))).map (· + 2) else(T.quoted (l.getD 0 0) (l.drop (k+1))).map (· + 1)):=aA (by
    rw[L.cons_drop l k hlt]
    by_cases h:k+1<l.length
    ·rw[L.cons_drop l (k+1) h];rfl
    ·rw[List.drop_eq_nil_of_le (show l.length≤k+1 by omega),List.drop_eq_nil_of_le (show l.length≤k+2 by omega)];rfl)
   clear hcl hr
   generalize l.getD k 0=z at *
   generalize l.getD 0 0=q at *
   rcases hzq:(z==q) with _|_
   ·have HQ:Hid (¬z=q):=aA (by simpa using hzq)
    rcases hz:(z==92) with _|_
    ·have HZ:Hid (¬z=92):=aA (by simpa using hz)
     go_wp2
     go_step3
     refine⟨rfl,⟨rfl,k+1,by omega,by omega,?_,_,_,_,_,_,_,_,_,_,_,_,_,_,_,_,_,_,_,_,_,_,_,rfl⟩,?_⟩
     ·rw[HS.out,HN.out,if_neg HQ.out,if_neg HZ.out,Option.map_map]
      congr 1;funext x;simp;omega
     ·simp[intOf];omega
    ·have HZ:Hid (z=92):=aA (by simpa using hz)
     go_wp2
     go_step3
     by_cases hk3:k+2≤l.length+1
     ·refine⟨rfl,⟨rfl,k+2,by omega,by omega,?_,_,_,_,_,_,_,_,_,_,_,_,_,_,_,_,_,_,_,_,_,_,_,rfl⟩,?_⟩
      ·rw[HS.out,HN.out,if_neg HQ.out,if_pos HZ.out,Option.map_map]
       congr 1;funext x;simp;omega
      ·simp[intOf];omega
     ·omega
   ·have HQ:Hid (z=q):=aA (by simpa using hzq)
    go_wp2
    simp only[Exit.jump]
    go_ret2
    refine⟨?_,rfl⟩
    have e:=HS.out
    rw[HN.out,if_pos HQ.out]at e
    rw[e,show(some 1).map (· + (k-1))=some k from by simp;omega]
    rfl
  ·have HX:Hid (l.drop k=[]):=aA (List.drop_eq_nil_of_le (by omega))
   clear hr
   go_wp2
   simp only[Exit.jump]
   go_ret2
   refine⟨?_,rfl⟩
   have:=HS.out
   rw[HX.out]at this
   simp[T.quoted]at this
   rw[this];rfl
 ·intro hp
  go_wp2
  go_step3
  rename_i hK
  refine hK _ _ (hp _ _ ⟨rfl,1,Nat.le_refl _,by omega,?_,_,_,_,_,_,_,_,_,_,_,_,_,_,_,_,_,_,_,_,_,_,_,rfl⟩)
  rw[HR.out]
  simp
def p3v (x:T.P3):Value:=.tuple #[.int .i64 x.1,.int .i64 (x.2.1:Nat),.int .i64 x.2.2]
def zlK (r:Option Nat):Value:=match r with|none=>.tuple #[.int .i64 0,.int .i64 0,.int .i64 4]|some n=>.tuple #[.int .i64 0,.int .i64 (n:Int),.int .i64 0]
theorem zkH (l:List Int):zlK (T.act (l.length+1) l 0)=p3v (T.action l):=by
 unfold T.action
 cases T.act (l.length+1) l 0 <;> rfl
theorem zkG (A:Option Addr) (c B:Nat) (l:List Int) (w:World) (hr:RdB w B A l) (hc:l.length≤c) (hn:l.length≤5000) :
  Calls Tryz.prog 113 #[.slice A l.length c] w fun e w'=>e=.returned (p3v (T.action l))∧w=w':=by
 rw[←zkH]
 generalize hR:T.act (l.length+1) l 0=R
 have HR:=aA hR
 clear hR
 go_enter Tryz.func113,Tryz.ntmps113
 go_wp2
 refine zae 0 (fun a' w'=>w'=w∧∃(k f:Nat) (o:Int),k≤l.length∧l.length<k+f∧0≤o∧o≤k∧R=(T.act f (l.drop k) o).map (· + k)∧∃(u1 u7 u8 u9 u10 u11 u12 u13 u14 u15 u16 u17 u18 u19 u20 u21 u22 u23 u24 u25 u26 u27 u28 u29 u30 u31 u32 u33 u34 u35 u36 u37 u38 u39 u40 u41 u42 u43 u44 u45:Value),a' = {tmps:=#[.slice A l.length c,u1,.int .i64 0,.int .i64 0,.int .i64 0,.int .i64 k,.int .i64 o,u7,u8,u9,u10,u11,u12,u13,u14,u15,u16,u17,u18,u19,u20,u21,u22,u23,u24,u25,u26,u27,u28,u29,u30,u31,u32,u33,u34,u35,u36,u37,u38,u39,u40,u41,u42,u43,u44,u45],defers:=[]}) (fun a' _=>l.length+2-(intOf (a'.tmps.getD 5 undef)).toNat) rfl ?_ ?_
 ·rintro a' w' ⟨rfl,k,f,o,hk,hf,ho,ho2,hs,u1,u7,u8,u9,u10,u11,u12,u13,u14,u15,u16,u17,u18,u19,u20,u21,u22,u23,u24,u25,u26,u27,u28,u29,u30,u31,u32,u33,u34,u35,u36,u37,u38,u39,u40,u41,u42,u43,u44,u45,rfl⟩
  have HS:=aA hs
  clear hs
  by_cases hlt:k<l.length
  ·obtain⟨f,rfl⟩:∃f',f=f'+1:=⟨f-1,by omega⟩
   have HN:Hid (T.act (f+1) (l.drop k) o=if l.getD k 0=39∨l.getD k 0=34 then(match T.quoted (l.getD k 0) (l.drop (k+1)) with|none=>none|some n=>(T.act f ((l.drop (k+1)).drop n) o).map (· + (n+1))) else if 0<T.ostep (l.getD k 0) o then(T.act f (l.drop (k+1)) (T.ostep (l.getD k 0) o)).map (· + 1) else some 1):=aA (by
    rw[L.cons_drop l k hlt];rfl)
   have HQ:=aA (fun w'' (hr':RdB w'' B A l)=>zkk (dropA A c k) (c-k) B (l.drop k) w'' (hr'.dropA hc k) (by rw[List.length_drop];omega) (by rw[List.length_drop];omega))
   rw[List.length_drop,List.drop_drop,show(l.drop k).getD 0 0=l.getD k 0 from by simp[List.getD]]at HQ
   have HQ':=aA (HQ.out _ hr)
   have HL:=aA (T.quoted_le (l.getD k 0) (l.drop (k+1)))
   have S1:=fun w=>zbA w A c l.length k hk
   obtain⟨g,o',hA,_,hcl⟩:=hr (by omega)
   have hcell:=hcl k (by omega)
   have HA:=aA hA
   have hA':A=some ⟨g,o',none⟩:=hA
   clear hcl hr HQ hA
   generalize dropA A c k=D at *
   subst hA'
   generalize l.getD k 0=z at *
   by_cases h1:z=123
   ·subst h1
    clear HQ' HL S1
    go_wp2
    go_step3
    refine⟨rfl,⟨rfl,k+1,f,o+1,by omega,by omega,by omega,by omega,?_,_,_,_,_,_,_,_,_,_,_,_,_,_,_,_,_,_,_,_,_,_,_,_,_,_,_,_,_,_,_,_,_,_,_,_,_,_,_,_,_,rfl⟩,?_⟩
    ·have e:=HN.out
     rw[if_neg (by decide),show T.ostep 123 o=o+1 from by simp[T.ostep],if_pos (by omega)]at e
     rw[HS.out,e,Option.map_map]
     congr 1;funext x;simp;omega
    ·simp[intOf];omega
   have hq1:(z==123)=false:=by simpa using h1
   by_cases h2:z=125
   ·subst h2
    clear HQ' HL S1
    by_cases ho3:0<o-1
    ·go_wp2
     go_step3
     refine⟨rfl,⟨rfl,k+1,f,o-1,by omega,by omega,by omega,by omega,?_,_,_,_,_,_,_,_,_,_,_,_,_,_,_,_,_,_,_,_,_,_,_,_,_,_,_,_,_,_,_,_,_,_,_,_,_,_,_,_,_,rfl⟩,?_⟩
     ·have e:=HN.out
      rw[if_neg (by decide),show T.ostep 125 o=o-1 from by simp[T.ostep],if_pos ho3]at e
      rw[HS.out,e,Option.map_map]
      congr 1;funext x;simp;omega
     ·simp[intOf];omega
    ·go_wp2
     simp only[Exit.jump]
     go_ret3
     refine⟨?_,rfl⟩
     have e:=HN.out
     rw[if_neg (by decide),show T.ostep 125 o=o-1 from by simp[T.ostep],if_neg (by omega)]at e
     rw[HS.out,e]
     simp[zlK];omega
   have hq2:(z==125)=false:=by simpa using h2
   rcases hq39:(z==39) with _|_
   ·rcases hq34:(z==34) with _|_
    ·have HZ:Hid (¬(z=39∨z=34)):=aA (by simp at hq39 hq34;omega)
     have H1:=aA h1
     have H2:=aA h2
     clear HQ' HL S1 h1 h2
     by_cases ho3:0<o
     ·go_wp2
      go_step3
      refine⟨rfl,⟨rfl,k+1,f,o,by omega,by omega,by omega,by omega,?_,_,_,_,_,_,_,_,_,_,_,_,_,_,_,_,_,_,_,_,_,_,_,_,_,_,_,_,_,_,_,_,_,_,_,_,_,_,_,_,_,rfl⟩,?_⟩
      ·have e:=HN.out
       rw[if_neg HZ.out,show T.ostep z o=o from by simp[T.ostep,H1.out,H2.out],if_pos ho3]at e
       rw[HS.out,e,Option.map_map]
       congr 1;funext x;simp;omega
      ·simp[intOf];omega
     ·go_wp2
      simp only[Exit.jump]
      go_ret3
      refine⟨?_,rfl⟩
      have e:=HN.out
      rw[if_neg HZ.out,show T.ostep z o=o from by simp[T.ostep,H1.out,H2.out],if_neg (by omega)]at e
      rw[HS.out,e]
      simp[zlK];omega
    ·clear h1 h2
     obtain rfl:z=34:=by simpa using hq34
     rcases hm:T.quoted 34 (l.drop (k+1)) with _|m
     ·have HM:=aA hm
      rw[hm]at HQ'
      clear hm HL
      go_wp2_with (simp only[S1])
      refine HQ'.out.mono ?_;rintro _ w' ⟨rfl,rfl⟩
      simp only[quoV]
      go_wp2
      simp only[Exit.jump]
      go_ret3
      refine⟨?_,rfl⟩
      have e:=HS.out
      rw[HN.out,if_pos (by decide)]at e
      rw[HM.out]at e
      rw[e];rfl
     ·have HM:=aA hm
      have hml:=HL.out m hm
      rw[List.length_drop]at hml
      rw[hm]at HQ'
      clear hm HL
      obtain⟨hm1,hm2⟩:=hml
      go_wp2_with (simp only[S1])
      refine HQ'.out.mono ?_;rintro _ w' ⟨rfl,rfl⟩
      simp only[quoV]
      go_wp2
      go_step3
      refine⟨rfl,⟨rfl,k+(m+1),f,o,by omega,by omega,by omega,by omega,?_,_,_,_,_,_,_,_,_,_,_,_,_,_,_,_,_,_,_,_,_,_,_,_,_,_,_,_,_,_,_,_,_,_,_,_,_,_,_,_,_,rfl⟩,?_⟩
      ·rw[HS.out,HN.out,if_pos (by decide),HM.out]
       simp only[List.drop_drop,Option.map_map]
       rw[show k+1+m=k+(m+1) by omega]
       congr 1;funext x;simp;omega
      ·simp[intOf];omega
   ·clear h1 h2
    obtain rfl:z=39:=by simpa using hq39
    rcases hm:T.quoted 39 (l.drop (k+1)) with _|m
    ·have HM:=aA hm
     rw[hm]at HQ'
     clear hm HL
     go_wp2_with (simp only[S1])
     refine HQ'.out.mono ?_;rintro _ w' ⟨rfl,rfl⟩
     simp only[quoV]
     go_wp2
     simp only[Exit.jump]
     go_ret3
     refine⟨?_,rfl⟩
     have e:=HS.out
     rw[HN.out,if_pos (by decide)]at e
     rw[HM.out]at e
     rw[e];rfl
    ·have HM:=aA hm
     have hml:=HL.out m hm
     rw[List.length_drop]at hml
     rw[hm]at HQ'
     clear hm HL
     obtain⟨hm1,hm2⟩:=hml
     go_wp2_with (simp only[S1])
     refine HQ'.out.mono ?_;rintro _ w' ⟨rfl,rfl⟩
     simp only[quoV]
     go_wp2
     go_step3
     refine⟨rfl,⟨rfl,k+(m+1),f,o,by omega,by omega,by omega,by omega,?_,_,_,_,_,_,_,_,_,_,_,_,_,_,_,_,_,_,_,_,_,_,_,_,_,_,_,_,_,_,_,_,_,_,_,_,_,_,_,_,_,rfl⟩,?_⟩
     ·rw[HS.out,HN.out,if_pos (by decide),HM.out]
      simp only[List.drop_drop,Option.map_map]
      rw[show k+1+m=k+(m+1) by omega]
      congr 1;funext x;simp;omega
     ·simp[intOf];omega
  ·have HX:Hid (l.drop k=[]):=aA (List.drop_eq_nil_of_le (by omega))
   obtain rfl:k=l.length:=by omega
   clear hr
   go_wp2
   simp only[Exit.jump]
   go_ret3
   refine⟨?_,rfl⟩
   have:=HS.out
   rw[HX.out]at this
   have e:∀f,T.act f [] o=none:=fun f=>by cases f <;> rfl
   rw[e]at this
   rw[this];rfl
 ·intro hp
  go_wp2
  go_step3
  rename_i hK
  refine hK _ _ (hp _ _ ⟨rfl,0,l.length+1,0,by omega,by omega,by omega,by omega,?_,_,_,_,_,_,_,_,_,_,_,_,_,_,_,_,_,_,_,_,_,_,_,_,_,_,_,_,_,_,_,_,_,_,_,_,_,_,_,_,_,rfl⟩)
  rw[←HR.out]
  simp
theorem K.str_list (l:List Int):(K.str l).toList=K.bytes l:=by rw[ByteArray.toList_eq];simp[K.str]
theorem zap {l m:List Int} (h:l=m):((K.str l).toList==K.bytes m)=true:=by rw[K.str_list,h];simp
theorem zaG {l m:List Int} (hl:K.Bytes l) (hm:K.Bytes m) (h:¬l=m):((K.str l).toList==K.bytes m)=false:=by
 rw[K.str_list,beq_eq_false_iff_ne]
 exact fun e=>h (K.bytes_inj hl hm e)
theorem K.str_size (l:List Int):(K.str l).size=l.length:=by simp[K.str,K.bytes,ByteArray.size]
theorem K.str_get {l:List Int} (hl:K.Bytes l) (i:Nat) (h:i<(K.str l).size):(((K.str l)[i]'h).toNat:Int)=l.getD i 0:=by
 have h':i<(K.bytes l).length:=by rw[K.str_size]at h;simpa[K.bytes] using h
 rw[←K.bytes_at hl i h']
 congr 2
theorem K.str_app (l m:List Int):K.str l++K.str m=K.str (l++m):=by
 unfold K.str
 rw[ByteArray.mk_append_mk]
 simp[K.bytes]
theorem zdT (l:List Int) (hl:K.Bytes l) (w:World) :
  Calls Tryz.prog 151 #[.string (K.str l)] w fun e w'=>e=.returned (.tuple #[.int .i64 (T.wkind l),.bool (T.wkind l != 0)])∧w=w':=by
 unfold T.wkind
 by_cases h0:l=[116,111,107,101,110]
 ·have e0:=zap (l:=l) (m:=[116,111,107,101,110]) h0
  rw[show K.bytes [116,111,107,101,110]=[116,111,107,101,110] from rfl]at e0
  simp only[if_pos h0]
  clear h0 hl
  generalize K.str l=s at *
  go_enter Tryz.func151,Tryz.ntmps151
  go_wp2
  go_ret2
  exact⟨rfl,rfl⟩
 have e0:=zaG hl (m:=[116,111,107,101,110]) (aO _ (by decide)) h0
 rw[show K.bytes [116,111,107,101,110]=[116,111,107,101,110] from rfl]at e0
 by_cases h1:l=[108,101,102,116]
 ·have e1:=zap (l:=l) (m:=[108,101,102,116]) h1
  rw[show K.bytes [108,101,102,116]=[108,101,102,116] from rfl]at e1
  simp only[if_pos h1,if_neg h0]
  clear h0 h1 hl
  generalize K.str l=s at *
  go_enter Tryz.func151,Tryz.ntmps151
  go_wp2
  go_ret2
  exact⟨rfl,rfl⟩
 have e1:=zaG hl (m:=[108,101,102,116]) (aO _ (by decide)) h1
 rw[show K.bytes [108,101,102,116]=[108,101,102,116] from rfl]at e1
 by_cases h2:l=[114,105,103,104,116]
 ·have e2:=zap (l:=l) (m:=[114,105,103,104,116]) h2
  rw[show K.bytes [114,105,103,104,116]=[114,105,103,104,116] from rfl]at e2
  simp only[if_pos h2,if_neg h0,if_neg h1]
  clear h0 h1 h2 hl
  generalize K.str l=s at *
  go_enter Tryz.func151,Tryz.ntmps151
  go_wp2
  go_ret2
  exact⟨rfl,rfl⟩
 have e2:=zaG hl (m:=[114,105,103,104,116]) (aO _ (by decide)) h2
 rw[show K.bytes [114,105,103,104,116]=[114,105,103,104,116] from rfl]at e2
 by_cases h3:l=[110,111,110,97,115,115,111,99]
 ·have e3:=zap (l:=l) (m:=[110,111,110,97,115,115,111,99]) h3
  rw[show K.bytes [110,111,110,97,115,115,111,99]=[110,111,110,97,115,115,111,99] from rfl]at e3
  simp only[if_pos h3,if_neg h0,if_neg h1,if_neg h2]
  clear h0 h1 h2 h3 hl
  generalize K.str l=s at *
  go_enter Tryz.func151,Tryz.ntmps151
  go_wp2
  go_ret2
  exact⟨rfl,rfl⟩
 have e3:=zaG hl (m:=[110,111,110,97,115,115,111,99]) (aO _ (by decide)) h3
 rw[show K.bytes [110,111,110,97,115,115,111,99]=[110,111,110,97,115,115,111,99] from rfl]at e3
 by_cases h4:l=[115,116,97,114,116]
 ·have e4:=zap (l:=l) (m:=[115,116,97,114,116]) h4
  rw[show K.bytes [115,116,97,114,116]=[115,116,97,114,116] from rfl]at e4
  simp only[if_pos h4,if_neg h0,if_neg h1,if_neg h2,if_neg h3]
  clear h0 h1 h2 h3 h4 hl
  generalize K.str l=s at *
  go_enter Tryz.func151,Tryz.ntmps151
  go_wp2
  go_ret2
  exact⟨rfl,rfl⟩
 have e4:=zaG hl (m:=[115,116,97,114,116]) (aO _ (by decide)) h4
 rw[show K.bytes [115,116,97,114,116]=[115,116,97,114,116] from rfl]at e4
 by_cases h5:l=[112,114,101,99]
 ·have e5:=zap (l:=l) (m:=[112,114,101,99]) h5
  rw[show K.bytes [112,114,101,99]=[112,114,101,99] from rfl]at e5
  simp only[if_pos h5,if_neg h0,if_neg h1,if_neg h2,if_neg h3,if_neg h4]
  clear h0 h1 h2 h3 h4 h5 hl
  generalize K.str l=s at *
  go_enter Tryz.func151,Tryz.ntmps151
  go_wp2
  go_ret2
  exact⟨rfl,rfl⟩
 have e5:=zaG hl (m:=[112,114,101,99]) (aO _ (by decide)) h5
 rw[show K.bytes [112,114,101,99]=[112,114,101,99] from rfl]at e5
 simp only[if_neg h0,if_neg h1,if_neg h2,if_neg h3,if_neg h4,if_neg h5]
 clear h0 h1 h2 h3 h4 h5 hl
 generalize K.str l=s at *
 go_enter Tryz.func151,Tryz.ntmps151
 go_wp2
 go_ret2
 exact⟨rfl,rfl⟩
theorem zgz (l:List Int) (hl:K.Bytes l) (hn:l.length≤9223372036854775807) (w:World) :
  Calls Tryz.prog 140 #[.string (K.str l)] w fun e w'=>e=.returned (.bool (T.isSign l))∧w=w':=by
 by_cases h0:l=[92,110]
 ·have e0:=zap (l:=l) (m:=[92,110]) h0
  rw[show K.bytes [92,110]=[92,110] from rfl]at e0
  rw[show T.isSign l=true from by rw[h0];rfl]
  clear h0 hl hn
  generalize K.str l=s at *
  go_enter Tryz.func140,Tryz.ntmps140
  go_wp2
  go_ret
  exact⟨rfl,rfl⟩
 have e0:=zaG hl (m:=[92,110]) (aO _ (by decide)) h0
 rw[show K.bytes [92,110]=[92,110] from rfl]at e0
 by_cases h1:l=[92,116]
 ·have e1:=zap (l:=l) (m:=[92,116]) h1
  rw[show K.bytes [92,116]=[92,116] from rfl]at e1
  rw[show T.isSign l=true from by rw[h1];rfl]
  clear h0 h1 hl hn
  generalize K.str l=s at *
  go_enter Tryz.func140,Tryz.ntmps140
  go_wp2
  go_ret
  exact⟨rfl,rfl⟩
 have e1:=zaG hl (m:=[92,116]) (aO _ (by decide)) h1
 rw[show K.bytes [92,116]=[92,116] from rfl]at e1
 by_cases h2:l=[92,92]
 ·have e2:=zap (l:=l) (m:=[92,92]) h2
  rw[show K.bytes [92,92]=[92,92] from rfl]at e2
  rw[show T.isSign l=true from by rw[h2];rfl]
  clear h0 h1 h2 hl hn
  generalize K.str l=s at *
  go_enter Tryz.func140,Tryz.ntmps140
  go_wp2
  go_ret
  exact⟨rfl,rfl⟩
 have e2:=zaG hl (m:=[92,92]) (aO _ (by decide)) h2
 rw[show K.bytes [92,92]=[92,92] from rfl]at e2
 by_cases h3:l=[92,39]
 ·have e3:=zap (l:=l) (m:=[92,39]) h3
  rw[show K.bytes [92,39]=[92,39] from rfl]at e3
  rw[show T.isSign l=true from by rw[h3];rfl]
  clear h0 h1 h2 h3 hl hn
  generalize K.str l=s at *
  go_enter Tryz.func140,Tryz.ntmps140
  go_wp2
  go_ret
  exact⟨rfl,rfl⟩
 have e3:=zaG hl (m:=[92,39]) (aO _ (by decide)) h3
 rw[show K.bytes [92,39]=[92,39] from rfl]at e3
 by_cases h4:l=[39]
 ·have e4:=zap (l:=l) (m:=[39]) h4
  rw[show K.bytes [39]=[39] from rfl]at e4
  rw[show T.isSign l=false from by rw[h4];rfl]
  clear h0 h1 h2 h3 h4 hl hn
  generalize K.str l=s at *
  go_enter Tryz.func140,Tryz.ntmps140
  go_wp2
  go_ret
  exact⟨rfl,rfl⟩
 have e4:=zaG hl (m:=[39]) (aO _ (by decide)) h4
 rw[show K.bytes [39]=[39] from rfl]at e4
 by_cases h5:l=[92]
 ·have e5:=zap (l:=l) (m:=[92]) h5
  rw[show K.bytes [92]=[92] from rfl]at e5
  rw[show T.isSign l=false from by rw[h5];rfl]
  clear h0 h1 h2 h3 h4 h5 hl hn
  generalize K.str l=s at *
  go_enter Tryz.func140,Tryz.ntmps140
  go_wp2
  go_ret
  exact⟨rfl,rfl⟩
 have e5:=zaG hl (m:=[92]) (aO _ (by decide)) h5
 rw[show K.bytes [92]=[92] from rfl]at e5
 have hsz:=K.str_size l
 by_cases hlen:l.length=1
 ·obtain⟨z,rfl⟩:=List.length_eq_one_iff.1 hlen
  have hz:=hl.hd
  have hv:T.isSign [z]=(decide (32≤z)&&decide (z≤126)):=by
   have n1:(z != 39)=true:=by simpa using h4
   have n2:(z != 92)=true:=by simpa using h5
   simp[T.isSign,n1,n2]
  rw[hv]
  have hb:∀h:0<(K.str [z]).size,(((K.str [z])[0]'h).toNat:Int)=z:=fun h=>K.str_get hl 0 h
  simp only[List.length_cons,List.length_nil]at hsz
  clear h0 h1 h2 h3 h4 h5 hl hn hv hlen
  generalize K.str [z]=s at *
  have hs1:((s.size:Int)==1)=true:=by rw[hsz];rfl
  have hs0:0<s.size:=by omega
  have hb0:=hb hs0
  clear hsz hb
  go_enter Tryz.func140,Tryz.ntmps140
  go_wp2
  all_goals go_ret
  all_goals (refine⟨aG ?_,rfl⟩;first|rfl|(rw[Bool.eq_iff_iff];simp;done)|(rw[Bool.eq_iff_iff];simp;omega))
 ·have hv:T.isSign l=false:=by
   match l with
   | []=>rfl
   | [z]=>exact absurd rfl hlen
   | [a,b] =>
    simp only[T.isSign,Bool.or_false,beq_eq_false_iff_ne.2 h0,beq_eq_false_iff_ne.2 h1,beq_eq_false_iff_ne.2 h2,beq_eq_false_iff_ne.2 h3]
   | a::b::c::r=>simp[T.isSign]
  rw[hv]
  have hs1:(((K.str l).size:Int)==1)=false:=by rw[hsz];exact beq_eq_false_iff_ne.2 (by omega)
  clear h0 h1 h2 h3 h4 h5 hl hn hv hlen hsz
  generalize K.str l=s at *
  go_enter Tryz.func140,Tryz.ntmps140
  go_wp2
  go_ret
  exact⟨rfl,rfl⟩
theorem K.str_data (l:List Int):(K.str l).data.toList=K.bytes l:=by simp[K.str]
theorem zjn (r:List Int):Lib.hasPrefix (K.bytes (39::r)) [39]=true:=by
 simp[Lib.hasPrefix,K.bytes,List.isPrefixOf]
theorem zkw {l:List Int} (hl:K.Bytes l) (h:∀r,l≠39::r):Lib.hasPrefix (K.bytes l) [39]=false:=by
 cases l with
 | nil=>rfl
 | cons z r =>
  have hz:=hl.hd
  have hn:z≠39:=fun e=>h r (by rw[e])
  simp only[Lib.hasPrefix,K.bytes,List.map_cons,List.isPrefixOf,Bool.and_true]
  rw[beq_eq_false_iff_ne]
  intro e
  have:=congrArg UInt8.toNat e
  simp at this
  omega
theorem zju (r:List Int) (w:World) :
  Calls Tryz.prog 138 #[.string (K.str (39::r)),.string ⟨#[39]⟩] w fun e w'=>e=.returned (.tuple #[.string (K.str r),.bool true])∧w=w':=by
 refine(Tryz.strings_CutPrefix (K.str (39::r)) ⟨#[39]⟩ w).mono fun e w' ⟨he,hw⟩=>⟨he.trans ?_,hw.symm⟩
 rw[K.str_data]
 have h:=zjn r
 unfold Lib.trimPrefix
 rw[show(#[39]:Array UInt8).toList=[39] from rfl,h,if_pos rfl]
 rfl
theorem zkD (l:List Int) (hl:K.Bytes l) (h:∀r,l≠39::r) (w:World) :
  Calls Tryz.prog 138 #[.string (K.str l),.string ⟨#[39]⟩] w fun e w'=>e=.returned (.tuple #[.string (K.str l),.bool false])∧w=w':=by
 refine(Tryz.strings_CutPrefix (K.str l) ⟨#[39]⟩ w).mono fun e w' ⟨he,hw⟩=>⟨he.trans ?_,hw.symm⟩
 rw[K.str_data]
 have h:=zkw hl h
 unfold Lib.trimPrefix
 rw[show(#[39]:Array UInt8).toList=[39] from rfl,h,if_neg (by simp)]
 rfl
theorem zjm (m:List Int):Lib.hasSuffix (K.bytes (m++[39])) [39]=true:=by
 unfold Lib.hasSuffix
 rw[List.isSuffixOf_iff_suffix]
 exact⟨K.bytes m,by simp[K.bytes]⟩
theorem zkv {l:List Int} (hl:K.Bytes l) (h:∀m,l≠m++[39]):Lib.hasSuffix (K.bytes l) [39]=false:=by
 rw[Bool.eq_false_iff]
 intro e
 unfold Lib.hasSuffix at e
 rw[List.isSuffixOf_iff_suffix]at e
 obtain⟨t,ht⟩:=e
 rcases List.eq_nil_or_concat l with rfl|⟨m,z,rfl⟩
 ·simp[K.bytes]at ht
 ·have hz:=hl z (by simp)
  have hk:K.bytes (m.concat z)=K.bytes m++[UInt8.ofNat z.toNat]:=by simp[K.bytes]
  rw[hk]at ht
  have:=List.append_inj_right' ht rfl
  injection this with this _
  have:=congrArg UInt8.toNat this
  simp at this
  exact h m (by simp;omega)
theorem zfU (m:List Int) (hn:m.length<9223372036854775807) (w:World) :
  Calls Tryz.prog 139 #[.string (K.str (m++[39])),.string ⟨#[39]⟩] w fun e w'=>e=.returned (.tuple #[.string (K.str m),.bool true])∧w=w':=by
 refine(Tryz.strings_CutSuffix (K.str (m++[39])) ⟨#[39]⟩ w (by rw[K.str_size];simp;omega)).mono fun e w' ⟨he,hw⟩=>⟨he.trans ?_,hw.symm⟩
 rw[K.str_data]
 have h:=zjm m
 unfold Lib.trimSuffix
 rw[show(#[39]:Array UInt8).toList=[39] from rfl,h,if_pos rfl]
 have:(K.bytes (m++[39])).take ((K.bytes (m++[39])).length-[(39:UInt8)].length)=K.bytes m:=by
  have e:K.bytes (m++[39])=K.bytes m++[39]:=by simp[K.bytes]
  rw[e];simp
 rw[this]
 rfl
theorem zio (l:List Int) (hl:K.Bytes l) (hn:l.length≤9223372036854775807) (h:∀m,l≠m++[39]) (w:World) :
  Calls Tryz.prog 139 #[.string (K.str l),.string ⟨#[39]⟩] w fun e w'=>e=.returned (.tuple #[.string (K.str l),.bool false])∧w=w':=by
 refine(Tryz.strings_CutSuffix (K.str l) ⟨#[39]⟩ w (by rw[K.str_size];omega)).mono fun e w' ⟨he,hw⟩=>⟨he.trans ?_,hw.symm⟩
 rw[K.str_data]
 have h:=zkv hl h
 unfold Lib.trimSuffix
 rw[show(#[39]:Array UInt8).toList=[39] from rfl,h,if_neg (by simp)]
 rfl
theorem zcs (l:List Int) (hl:K.Bytes l) (hn:l.length≤9223372036854775807) (w:World) :
  Calls Tryz.prog 101 #[.string (K.str l)] w fun e w'=>e=.returned (.bool (T.isLit l))∧w=w':=by
 by_cases hb:∃r,l=39::r
 ·obtain⟨r,rfl⟩:=hb
  have P1:=aA (fun w=>zju r w)
  have hr:K.Bytes r:=hl.tl
  have hrn:r.length<9223372036854775807:=by simp at hn;omega
  by_cases he:∃m,r=m++[39]
  ·obtain⟨m,rfl⟩:=he
   have hmn:m.length<9223372036854775807:=by simp at hrn;omega
   have P2:=aA (fun w=>zfU m hmn w)
   have P3:=aA (fun w=>zgz m (fun z hz=>hr z (by simp[hz])) (by omega) w)
   rw[T.isLit_mid m]
   clear hl hn hr hrn hmn
   generalize K.str (39::(m++[39]))=s at *
   generalize K.str (m++[39])=s2 at *
   generalize K.str m=s3 at *
   generalize T.isSign m=b at *
   go_enter Tryz.func101,Tryz.ntmps101
   go_wp2_with fail
   refine(P1.out _).mono ?_;rintro _ w' ⟨rfl,rfl⟩
   go_wp2_with fail
   refine(P2.out _).mono ?_;rintro _ w' ⟨rfl,rfl⟩
   go_wp2_with fail
   refine(P3.out _).mono ?_;rintro _ w' ⟨rfl,rfl⟩
   go_wp2
   go_ret
   exact⟨rfl,rfl⟩
  ·have P2:=aA (fun w=>zio r hr (by omega) (fun m e=>he ⟨m,e⟩) w)
   have hv:T.isLit (39::r)=false:=by
    rcases hq:T.isLit (39::r) with _|_
    ·rfl
    ·obtain⟨m,hm⟩:=T.isLit_bare _ hq
     injection hm with _ hm
     exact absurd ⟨m,hm⟩ he
   rw[hv]
   clear hl hn hr hrn he hv
   generalize K.str (39::r)=s at *
   generalize K.str r=s2 at *
   go_enter Tryz.func101,Tryz.ntmps101
   go_wp2_with fail
   refine(P1.out _).mono ?_;rintro _ w' ⟨rfl,rfl⟩
   go_wp2_with fail
   refine(P2.out _).mono ?_;rintro _ w' ⟨rfl,rfl⟩
   go_wp2
   go_ret
   exact⟨rfl,rfl⟩
 ·have P1:=aA (fun w=>zkD l hl (fun r e=>hb ⟨r,e⟩) w)
  have hv:T.isLit l=false:=by
   rcases hq:T.isLit l with _|_
   ·rfl
   ·obtain⟨m,hm⟩:=T.isLit_bare _ hq
    exact absurd ⟨_,hm⟩ hb
  have P2:Hid (∃(s2:ByteArray) (b:Bool),∀w,Calls Tryz.prog 139 #[.string (K.str l),.string ⟨#[39]⟩] w fun e w'=>e=.returned (.tuple #[.string s2,.bool b])∧w=w'):=by
   refine aA ?_
   by_cases he:∃m,l=m++[39]
   ·obtain⟨m,rfl⟩:=he
    exact⟨K.str m,true,fun w=>zfU m (by simp at hn;omega) w⟩
   ·exact⟨K.str l,false,fun w=>zio l hl hn (fun m e=>he ⟨m,e⟩) w⟩
  obtain⟨s2,b,P2⟩:=P2.out
  replace P2:=aA P2
  rw[hv]
  clear hl hn hb hv
  generalize K.str l=s at *
  go_enter Tryz.func101,Tryz.ntmps101
  go_wp2_with fail
  refine(P1.out _).mono ?_;rintro _ w' ⟨rfl,rfl⟩
  go_wp2_with fail
  refine(P2.out _).mono ?_;rintro _ w' ⟨rfl,rfl⟩
  go_wp2
  go_ret
  exact⟨rfl,rfl⟩
def zfw (w:World) (l:List Int):Nat:=grownCap w l.length 0 5
def ziD (w:World) (l:List Int):Obj:=.cells (bytesRow (K.str l) (zfw w l)) 5 ((bytesRow (K.str l) (zfw w l)).size,(bytesRow (K.str l) (zfw w l)).size+1)
theorem zaz (w:World) (l:List Int):(convert 9 40 (.string (K.str l))).run Tryz.prog w=.ok (.slice (some ⟨w.heap.size,0,none⟩) l.length (zfw w l)) (w.drew.alloc (ziD w l)):=by
 have:=run_bytes_of_string (P:=Tryz.prog) w 9 40 5 (K.str l) Tryz.underlying9 Tryz.underlying40 Tryz.underlying5
 rw[K.str_size]at this
 exact this
theorem za4 (w:World) (l:List Int) (hl:K.Bytes l):RdB (w.drew.alloc (ziD w l)) (w.drew.alloc (ziD w l)).heap.size (some ⟨w.heap.size,0,none⟩) l∧Below w.heap.size w (w.drew.alloc (ziD w l))∧l.length≤zfw w l:=by
 refine⟨fun _=>⟨w.heap.size,0,rfl,by simp,fun j hj=>?_⟩,(aB (Below.refl _ _) 1).alloc (Nat.le_refl _) _,grownCap_ge w l.length 0 _⟩
 have:=World.cell?_alloc_mark w.drew (bytesRow (K.str l) (zfw w l)) 5 ((bytesRow (K.str l) (zfw w l)).size,(bytesRow (K.str l) (zfw w l)).size+1) (0+j)
 rw[show w.drew.heap.size=w.heap.size from rfl]at this
 unfold ziD
 rw[this]
 have hj':j<(K.bytes l).length:=by simpa[K.bytes] using hj
 have h2:0+j<(K.str l).data.size:=by simpa[K.str] using hj'
 rw[bytesRow_at (K.str l) _ (0+j) h2]
 have:=K.bytes_at hl j hj'
 rw[←this]
 simp[K.str]
theorem zbw (l:List Int) (hl:K.Bytes l) (w:World) :
  Calls Tryz.prog 67 #[.string (K.str l)] w fun e w'=>e=.returned (.bool (T.isName l))∧Below w.heap.size w w':=by
 have hsz:=K.str_size l
 by_cases h0:l=[]
 ·subst h0
  have e0:(K.str []).toList=[]:=by rw[K.str_list];rfl
  have hv:T.isName []=false:=by decide
  rw[hv]
  clear hsz hl hv
  generalize K.str []=s at *
  go_enter Tryz.func67,Tryz.ntmps67
  go_wp2
  go_ret
  exact⟨rfl,Below.refl _ _⟩
 ·have e0:=zaG hl (m:=[]) (aO _ (by decide)) h0
  rw[show K.bytes []=[] from rfl]at e0
  have e2:¬(K.str l).toList=[]:=by simpa using e0
  have e1:(!(K.str l).toList.isEmpty)=true:=by
   rw[K.str_list]
   cases l with
   | nil=>exact absurd rfl h0
   | cons z r=>rfl
  have hpos:l.length≠0:=fun e=>h0 (List.eq_nil_of_length_eq_zero e)
  by_cases h20:l.length≤20
  ·have hv:T.isName l=(((T.nsize l:Nat):Int)==(l.length:Int)):=by
    unfold T.isName
    rw[decide_eq_true h20,decide_eq_true hpos,Bool.true_and,Bool.true_and,Bool.eq_iff_iff]
    simp;omega
   have C1:=fun w=>zaz w l
   have P1:=aA (fun(w:World)=>(zen (some ⟨w.heap.size,0,none⟩) (zfw w l) _ l (w.drew.alloc (ziD w l)) (za4 w l hl).1 (by omega)))
   have B1:=aA (fun(w:World)=>(za4 w l hl).2.1)
   rw[hv]
   clear hv hpos h0 hl
   generalize T.nsize l=n at *
   have hle:(l.length:Int)≤20:=by omega
   clear h20
   generalize l.length=m at *
   have HZ:=aA hsz
   have hs2:((K.str l).size:Int)=m:=by omega
   clear hsz
   generalize K.str l=s at *
   go_enter Tryz.func67,Tryz.ntmps67
   go_wp2_with (simp only[C1])
   refine(P1.out _).mono ?_;rintro _ w' ⟨rfl,rfl⟩
   go_wp2
   go_ret
   exact⟨rfl,B1.out w⟩
  ·have hv:T.isName l=false:=by unfold T.isName;rw[decide_eq_false h20];rfl
   rw[hv]
   have h21:¬((K.str l).size:Int)≤20:=by omega
   clear hv hpos h0 hl h20 hsz
   generalize K.str l=s at *
   go_enter Tryz.func67,Tryz.ntmps67
   go_wp2
   go_ret
   exact⟨rfl,Below.refl _ _⟩
def ML (w:World):Prop:=∃m,w.cell? ⟨1,0,none⟩=some (.int .i64 m)
theorem ML.below {w w':World} {B:Nat} (h:ML w) (hb:Below B w w') (hB:w.heap.size≤B):ML w':=by
 obtain⟨m,hm⟩:=h
 exact⟨m,(hb.cell (p:=⟨_,0,none⟩) (Nat.lt_of_lt_of_le (block_lt_of_cell hm) hB)).trans hm⟩
theorem ML.up {w w':World} (h:ML w) (hb:Below w.heap.size w w'):ML w':=h.below hb (Nat.le_refl _)
theorem RdB.bytesIn {w:World} {B:Nat} {A:Option Addr} {l:List Int} (h:RdB w B A l):Lib.BytesIn w A l.length l:=fun hn=>by
 obtain⟨g,o,e,_,hc⟩:=h (by omega)
 exact⟨g,o,e,hc⟩
theorem RdB.at_add {w:World} {B:Nat} {a:Addr} {l:List Int} (h:RdB w B (some a) l):∀i,i<l.length→w.cell? (a.add i)=some (.int .u8 (l.getD i 0)):=fun i hi=>by
 obtain⟨g,o,e,_,hc⟩:=h (by omega)
 injection e with e
 subst e
 rw[Go.WideShapes.add_plain]
 exact hc i hi
theorem zic (A:Option Addr) (hA:A≠none) (c B:Nat) (l:List Int) (w:World) (hr:RdB w B A l) (hl:K.Bytes l) (hc:l.length≤c) (hn:l.length≤5000) (a2:Addr) (c2 B2:Nat) (s:List Int) (h2:RdB w B2 (some a2) s) (hs:K.Bytes s) (hsn:s.length≤5000) (hm:ML w) :
  Calls Tryz.prog 147 #[.slice A l.length c,.slice (some a2) s.length c2] w fun e w'=>e=.returned (.int .i64 (T.ix l s))∧Below w.heap.size w w':=by
 obtain⟨m,hm⟩:=hm
 cases A with
 | none=>exact absurd rfl hA
 | some a1 =>
  refine(Tryz.bytes_Index_at a1 a2 l.length c s.length c2 l s m w rfl rfl hl hs hr.at_add h2.at_add hc (by omega) (by omega) hm).mono fun _ _ h=>⟨h.1,?_⟩
  obtain⟨q,rfl⟩:=h.2
  exact aB (Below.refl _ _) q
theorem zkl (A:Option Addr) (c B:Nat) (l:List Int) (w:World) (hr:RdB w B A l) (hc:l.length≤c) (a2:Addr) (c2 B2:Nat) (s:List Int) (h2:RdB w B2 (some a2) s) :
  Calls Tryz.prog 146 #[.slice A l.length c,.slice (some a2) s.length c2] w fun e w'=>e=.returned (.bool (T.pre l s))∧w=w' :=
 (Tryz.bytes_HasPrefix_all A (some a2) l.length c s.length c2 l s w rfl rfl hc hr.bytesIn h2.bytesIn).mono fun _ _ h=>⟨h.1,h.2.symm⟩
def zlr (A:Option Addr) (l:List Int) (c:Nat) (w:World) (e:Ending) (w':World):Prop:=∃v b,e=.returned (.tuple #[.slice A (T.line l).length c,v,.bool b])∧Below w.heap.size w w'
theorem zkC (A:Option Addr) (hA:A≠none) (c B:Nat) (l:List Int) (w:World) (hr:RdB w B A l) (hl:K.Bytes l) (hc:l.length≤c) (hn:l.length≤5000) (a2:Addr) (c2 B2:Nat) (h2:RdB w B2 (some a2) [10]) (hm:ML w) :
  Calls Tryz.prog 148 #[.slice A l.length c,.slice (some a2) 1 c2] w (zlr A l c w):=by
 obtain⟨m,hm⟩:=hm
 refine(Tryz.bytes_Cut_all A (some a2) l.length c 1 c2 l [10] m w rfl rfl hl (aO [10] (by decide)) hr.bytesIn h2.bytesIn (fun h=>absurd h hA) hc (by omega) (by omega) hm).mono fun _ _ h=>?_
 obtain⟨he,q,rfl⟩:=h
 have hix:Lib.index (Lib.bytesOf l) (Lib.bytesOf [10])=T.ix l [10]:=rfl
 rw[hix]at he
 unfold Lib.cutV at he
 have hroom:=T.ix_room l [10]
 have hb:Below w.heap.size w (w.drewN q):=aB (Below.refl _ _) q
 by_cases h0:0≤T.ix l [10]
 ·rw[if_pos h0]at he
  have hlen:(T.line l).length=(T.ix l [10]).toNat:=by
   unfold T.line
   rw[if_pos h0,List.length_take]
   have:=hroom h0
   omega
  rw[←hlen]at he
  exact⟨_,_,he,hb⟩
 ·rw[if_neg h0]at he
  have hlen:T.line l=l:=by unfold T.line;rw[if_neg h0]
  unfold zlr
  rw[hlen]
  exact⟨_,_,he,hb⟩
theorem zks {w:World} {B:Nat} {A:Option Addr} {l:List Int} (h:RdB w B A l):RdB w B A (T.line l):=by
 unfold T.line
 split
 ·exact h.take _
 ·exact h
theorem zgu {l:List Int} (h:K.Bytes l):K.Bytes (T.line l):=by
 unfold T.line
 split
 ·exact h.take _
 ·exact h
theorem zfN (A:Option Addr) (hA:A≠none) (c:Nat) (l:List Int) (w:World) (hr:RdB w w.heap.size A l) (hl:K.Bytes l) (hc:l.length≤c) (hn:l.length≤5000) (hm:ML w) :
  Calls Tryz.prog 112 #[.slice A l.length c] w fun e w'=>e=.returned (.slice A (T.line l).length c)∧Below w.heap.size w w':=by
 obtain⟨r1,r2⟩:=zlD w [10]
 have HC:=aA (zkC A hA c _ l _ (hr.up r2) hl hc hn _ 1 _ r1 (hm.up r2))
 have HB:=aA r2
 have vl:=show(convert 40 40 (.slice (some ⟨w.heap.size,0,none⟩) 1 1)).run Tryz.prog (w.alloc (.cells #[.int .u8 10] 5))=.ok (.slice (some ⟨w.heap.size,0,none⟩) 1 1) (w.alloc (zaY [10])) from zb3 w [10] 1 1
 clear r1 r2 hr hl hm
 go_enter Tryz.func112,Tryz.ntmps112
 go_wp2_with (simp only[vl])
 refine HC.out.mono ?_;rintro _ w' ⟨v,b,rfl,hb⟩
 have HB2:=aA (HB.out.trans (hb.mono HB.out.size))
 clear hb
 go_wp2
 go_ret
 exact⟨rfl,HB2.out⟩
theorem zdr (A:Option Addr) (hA:A≠none) (c:Nat) (l:List Int) (f:Nat) (s:List Int) (w:World) (hr:RdB w w.heap.size A l) (hl:K.Bytes l) (hf:f≤l.length) (hc:l.length≤c) (hn:l.length≤5000) (hs:K.Bytes s) (hsn:s.length≤5000) (hm:ML w) :
  Calls Tryz.prog 111 #[.slice A l.length c,.int .i64 f,.string (K.str s)] w fun e w'=>e=.returned (p3v (T.skip l f s))∧Below w.heap.size w w':=by
 obtain⟨r1,r2,_⟩:=za4 w s hs
 have HC:=aA (zic (dropA A c f) (zgG hA c f) (c-f) _ (l.drop f) _ ((hr.up r2).dropA hc f) (hl.drop f) (by rw[List.length_drop];omega) (by rw[List.length_drop];omega) _ (zfw w s) _ s r1 hs hsn (hm.up r2))
 rw[List.length_drop]at HC
 have HB:=aA r2
 have C1:=zaz w s
 have S1:=fun w=>zbA w A c l.length f hf
 have hsz:((K.str s).size:Int)=(s.length:Int):=by rw[K.str_size]
 have hge:=T.ix_ge (l.drop f) s
 have hro:=T.ix_room (l.drop f) s
 rw[List.length_drop]at hro
 have HV:Hid (T.skip l f s=if T.ix (l.drop f) s<0 then(0,0,4) else(0,f+(T.ix (l.drop f) s).toNat+s.length,0)):=aA rfl
 clear r1 r2 hr hl hm hs
 generalize T.skip l f s=R at *
 generalize T.ix (l.drop f) s=x at *
 generalize K.str s=t at *
 generalize dropA A c f=D at *
 by_cases hx:x<0
 ·clear hro
  go_enter Tryz.func111,Tryz.ntmps111
  go_wp2_with (first|simp only[S1]|simp only[C1])
  refine HC.out.mono ?_;rintro _ w' ⟨rfl,hb⟩
  have HB2:=aA (HB.out.trans (hb.mono HB.out.size))
  clear hb
  go_wp2
  go_ret3
  refine⟨?_,HB2.out⟩
  rw[HV.out,if_pos hx];rfl
 ·obtain⟨i,rfl⟩:=Int.eq_ofNat_of_zero_le (show 0≤x by omega)
  have hi:=hro (by omega)
  simp only[Int.toNat_natCast]at hi
  clear hro hge
  have HX:=aA hx
  have hx':0≤(i:Int):=by omega
  clear hx
  go_enter Tryz.func111,Tryz.ntmps111
  go_wp2_with (first|simp only[S1]|simp only[C1])
  refine HC.out.mono ?_;rintro _ w' ⟨rfl,hb⟩
  have HB2:=aA (HB.out.trans (hb.mono HB.out.size))
  clear hb
  go_wp2
  go_ret3
  refine⟨?_,HB2.out⟩
  rw[HV.out,if_neg (by omega)]
  simp[p3v]
theorem zlt (w:World) (a b:Int):(convert 40 40 (.slice (some ⟨w.heap.size,0,none⟩) 2 2)).run Tryz.prog (w.alloc (.cells #[.int .u8 a,.int .u8 b] 5))=.ok (.slice (some ⟨w.heap.size,0,none⟩) 2 2) (w.alloc (zaY [a,b])):=zb3 w [a,b] 2 2
theorem zbZ (A:Option Addr) (c:Nat) (l:List Int) (w:World) (hr:RdB w w.heap.size A l) (hc:l.length≤c) (a b:Int) :
  Calls Tryz.prog 146 #[.slice A l.length c,.slice (some ⟨w.heap.size,0,none⟩) 2 2] (w.alloc (zaY [a,b])) fun e w'=>e=.returned (.bool (T.pre l [a,b]))∧Below w.heap.size w w':=by
 obtain⟨r1,r2⟩:=zlD w [a,b]
 exact(zkl A c _ l _ (hr.up r2) hc _ 2 _ [a,b] r1).mono fun _ _ h=>⟨h.1,h.2▸r2⟩
theorem zcS (w:World) (A:Option Addr) (c n j:Nat) (h1:1≤j) (h2:j≤c):(Instr.sliceAt 40 (.slice A n c) (some (.int .i64 1)) (some (.int .i64 j)) none).run Tryz.prog w=.ok (.slice (dropA A c 1) (j-1) (c-1)) w:=by
 rw[run_sliceAt_slice _ _ _ _ _ _ (by kernel_rfl),run_slice_lh _ _ _ _ _ (by kernel_rfl) .i64 .i64 1 (j:Int) (by omega) (by omega) (by omega)]
 have hs:(sizeOf (Tryz.prog.elem 40)).run Tryz.prog w=.ok 1 w:=by kernel_rfl
 rw[hs]
 simp[Result.andThen,sliced,dropA]
def Ans (x:T.P3) (w:World) (e:Ending) (w':World):Prop:=e=.returned (p3v x)∧Below w.heap.size w w'
theorem Ans.parts {x:T.P3} {w w':World} {e:Ending} (h:Ans x w e w'):∃(k:Int) (n:Nat) (d:Int),x=(k,n,d)∧e=.returned (.tuple #[.int .i64 k,.int .i64 n,.int .i64 d])∧Below w.heap.size w w':=by
 obtain⟨k,n,d⟩:=x
 exact⟨k,n,d,rfl,h.1,h.2⟩
theorem zfe (A:Option Addr) (hA:A≠none) (c:Nat) (l:List Int) (w:World) (hr:RdB w w.heap.size A l) (hl:K.Bytes l) (hc:l.length≤c) (hn:l.length≤5000) (hm:ML w) :
  Calls Tryz.prog 110 #[.slice A l.length c] w (Ans (T.comment l) w):=by
 have P1:=aA (zbZ A c l w hr hc 47 42)
 have V1:=fun w=>zlt w 47 42
 have V2:=fun w=>zlt w 47 47
 by_cases h1:T.pre l [47,42]=true
 ·have hv:T.comment l=T.skip l 2 [42,47]:=by unfold T.comment;rw[if_pos h1]
  have hp:=T.pre_len _ _ h1
  have HS:=aA (fun(w1:World) (b1:Below w.heap.size w w1)=>(zdr A hA c l 2 [42,47] w1 (hr.up b1) hl (by simpa using hp) hc hn (aO _ (by decide)) (by simp) (hm.up b1)))
  rw[show K.str [42,47]=⟨#[42,47]⟩ from rfl]at HS
  rw[hv]
  rw[h1]at P1
  clear h1 hv hp hr hl hm
  generalize T.skip l 2 [42,47]=x at *
  obtain⟨xk,xn,xe⟩:=x
  simp only[p3v]at HS
  go_enter Tryz.func110,Tryz.ntmps110
  go_wp2_with (simp only[V1])
  refine P1.out.mono ?_;rintro _ w1 ⟨rfl,hb⟩
  have HB:=aA hb
  clear hb
  go_wp2_with fail
  refine(HS.out _ HB.out).mono ?_;rintro _ w2 ⟨rfl,hb⟩
  have HB2:=aA (HB.out.trans (hb.mono HB.out.size))
  clear hb
  go_wp2
  go_ret3
  exact⟨rfl,HB2.out⟩
 ·have P2:=aA (fun(w1:World) (b1:Below w.heap.size w w1)=>zbZ A c l w1 (hr.up b1) hc 47 47)
  have h1':T.pre l [47,42]=false:=by simpa using h1
  rw[h1']at P1
  by_cases h2:T.pre l [47,47]=true
  ·have hv:T.comment l=(0,(T.line l).length,0):=by unfold T.comment;rw[if_neg h1,if_pos h2]
   have HS:=aA (fun(w1:World) (b1:Below w.heap.size w w1)=>zfN A hA c l w1 (hr.up b1) hl hc hn (hm.up b1))
   rw[hv]
   rw[h2]at P2
   clear h1 h1' h2 hv hr hl hm
   generalize (T.line l).length=m at *
   go_enter Tryz.func110,Tryz.ntmps110
   go_wp2_with (simp only[V1])
   refine P1.out.mono ?_;rintro _ w1 ⟨rfl,hb⟩
   have HB:=aA hb
   clear hb
   go_wp2_with fail
   refine(P2.out _ HB.out).mono ?_;rintro _ w2 ⟨rfl,hb⟩
   have HB2:=aA (HB.out.trans (hb.mono HB.out.size))
   clear hb
   go_wp2_with fail
   refine(HS.out _ HB2.out).mono ?_;rintro _ w3 ⟨rfl,hb⟩
   have HB3:=aA (HB2.out.trans (hb.mono HB2.out.size))
   clear hb
   go_wp2
   go_ret3
   exact⟨rfl,HB3.out⟩
  ·have hv:T.comment l=(0,0,3):=by unfold T.comment;rw[if_neg h1,if_neg h2]
   have h2':T.pre l [47,47]=false:=by simpa using h2
   rw[hv]
   rw[h2']at P2
   clear h1 h1' h2 h2' hv hr hl hm
   go_enter Tryz.func110,Tryz.ntmps110
   go_wp2_with (simp only[V1])
   refine P1.out.mono ?_;rintro _ w1 ⟨rfl,hb⟩
   have HB:=aA hb
   clear hb
   go_wp2_with fail
   refine(P2.out _ HB.out).mono ?_;rintro _ w2 ⟨rfl,hb⟩
   have HB2:=aA (HB.out.trans (hb.mono HB.out.size))
   clear hb
   go_wp2
   go_ret3
   exact⟨rfl,HB2.out⟩
theorem ze0 (A:Option Addr) (hA:A≠none) (c:Nat) (l:List Int) (w:World) (hr:RdB w w.heap.size A l) (hl:K.Bytes l) (hc:l.length≤c) (h0:0<l.length) (hn:l.length≤5000) (hm:ML w) :
  Calls Tryz.prog 114 #[.slice A l.length c] w (Ans (T.percent l) w):=by
 have P1:=aA (zbZ A c l w hr hc 37 37)
 have V1:=fun w=>zlt w 37 37
 have V2:=fun w=>zlt w 37 123
 by_cases h1:T.pre l [37,37]=true
 ·have hv:T.percent l=(9,2,0):=by unfold T.percent;rw[if_pos h1]
  rw[hv]
  rw[h1]at P1
  clear h1 hv hr hl hm
  go_enter Tryz.func114,Tryz.ntmps114
  go_wp2_with (simp only[V1])
  refine P1.out.mono ?_;rintro _ w1 ⟨rfl,hb⟩
  have HB:=aA hb
  clear hb
  go_wp2
  go_ret3
  exact⟨rfl,HB.out⟩
 ·have P2:=aA (fun(w1:World) (b1:Below w.heap.size w w1)=>zbZ A c l w1 (hr.up b1) hc 37 123)
  have h1':T.pre l [37,37]=false:=by simpa using h1
  rw[h1']at P1
  by_cases h2:T.pre l [37,123]=true
  ·have hv:T.percent l=T.skip l 2 [37,125]:=by unfold T.percent;rw[if_neg h1,if_pos h2]
   have hp:=T.pre_len _ _ h2
   have HS:=aA (fun(w1:World) (b1:Below w.heap.size w w1)=>(zdr A hA c l 2 [37,125] w1 (hr.up b1) hl (by simpa using hp) hc hn (aO _ (by decide)) (by simp) (hm.up b1)))
   rw[show K.str [37,125]=⟨#[37,125]⟩ from rfl]at HS
   rw[hv]
   rw[h2]at P2
   clear h1 h1' h2 hv hp hr hl hm
   generalize T.skip l 2 [37,125]=x at *
   obtain⟨xk,xn,xe⟩:=x
   simp only[p3v]at HS
   go_enter Tryz.func114,Tryz.ntmps114
   go_wp2_with (simp only[V1])
   refine P1.out.mono ?_;rintro _ w1 ⟨rfl,hb⟩
   have HB:=aA hb
   clear hb
   go_wp2_with fail
   refine(P2.out _ HB.out).mono ?_;rintro _ w2 ⟨rfl,hb⟩
   have HB2:=aA (HB.out.trans (hb.mono HB.out.size))
   clear hb
   go_wp2_with fail
   refine(HS.out _ HB2.out).mono ?_;rintro _ w3 ⟨rfl,hb⟩
   have HB3:=aA (HB2.out.trans (hb.mono HB2.out.size))
   clear hb
   go_wp2
   go_ret3
   exact⟨rfl,HB3.out⟩
  ·have h2':T.pre l [37,123]=false:=by simpa using h2
   have hv:T.percent l=if T.wkind ((l.take (T.psize l)).drop 1)=0 then(0,0,3) else(T.wkind ((l.take (T.psize l)).drop 1),T.psize l,0):=by unfold T.percent;rw[if_neg h1,if_neg h2]
   rw[hv]
   rw[h2']at P2
   have HR:=aA (fun(w1:World) (b1:Below w.heap.size w w1)=>hr.up b1)
   have hpl:=T.psize_le l h0
   have hp1:1≤T.psize l:=by unfold T.psize;omega
   clear h1 h1' h2 h2' hv
   have HK:=aA (fun w=>zdT ((l.take (T.psize l)).drop 1) ((hl.take _).drop _) w)
   have HC:=fun(w1:World) (B:Nat) (hr1:RdB w1 B A l)=>zaH (((hr1.take (T.psize l))).dropA (c:=c) (by rw[List.length_take];omega) 1) ((hl.take (T.psize l)).drop 1) (c-1)
   rw[List.length_drop,List.length_take,show min (T.psize l) l.length=T.psize l by omega]at HC
   by_cases hK0:T.wkind ((l.take (T.psize l)).drop 1)=0
   ·rw[if_pos hK0]
    have HB0:Hid (T.wkind ((l.take (T.psize l)).drop 1)=0):=aA hK0
    rw[hK0]at HK
    have HN:=aA (fun k h=>T.run_next T.small l k h)
    have HE:=aA (fun k h=>T.run_end T.small l k h)
    have HP:Hid (T.psize l=1+T.run T.small (l.drop 1)):=aA rfl
    have HM:=aA (fun z w=>zcf z w)
    have HCV:=aA HC
    clear HC hK0 hr hl hm
    generalize hpp:T.psize l=p at *
    have HPP:=aA hpp
    clear hpp
    generalize K.str ((l.take p).drop 1)=s at *
    generalize hkd:T.wkind ((l.take p).drop 1)=kd at *
    have HKD:=aA hkd
    clear hkd
    generalize hD:dropA A c 1=D at *
    have HD:=aA hD
    clear hD
    go_enter Tryz.func114,Tryz.ntmps114
    go_wp2_with (simp only[V1])
    refine P1.out.mono ?_;rintro _ w1 ⟨rfl,hb⟩
    have HB:=aA hb
    clear hb
    go_wp2_with fail
    refine(P2.out _ HB.out).mono ?_;rintro _ w2 ⟨rfl,hb⟩
    have HB2:=aA (HB.out.trans (hb.mono HB.out.size))
    clear hb V1 V2 P1 P2
    have hr2:=HR.out _ HB2.out
    have S2:=zcS w2 A c l.length p hp1 (by omega)
    have C2:=HCV.out w2 _ hr2
    rw[HD.out]at S2
    clear HCV HB HR
    go_wp2
    go_loop [5] (fun vi=>∃(k:Nat),1≤k∧k≤l.length∧vi=.int .i64 k∧p=k+T.run T.small (l.drop k)) (fun vi=>l.length-(intOf vi).toNat)
    case atStart=>exact⟨1,Nat.le_refl _,by omega,rfl,HP.out⟩
    case round =>
     obtain⟨k,hk1,hk,rfl,hs⟩:=hrel
     have HS:=aA hs
     clear hs
     by_cases hlt:k<l.length
     ·obtain⟨g,o,hA1,_,hcl⟩:=hr2 (by omega)
      have hcell:=hcl k (by omega)
      have HNk:=aA (HN.out k hlt)
      have HMk:=aA (HM.out (l.getD k 0))
      clear hcl hr2
      generalize l.getD k 0=z at *
      subst hA1
      rcases hz:T.small z with _|_
      ·rw[hz]at HMk
       have HZ:=aA hz
       clear hz
       obtain rfl:k=p:=by have e1:=HS.out;have e2:=HNk.out;rw[HZ.out]at e2;simp at e2;omega
       go_wp2_with fail
       refine(HMk.out _).mono ?_;rintro _ w3 ⟨rfl,rfl⟩
       go_wp2_with fail
       refine(HK.out _).mono ?_;rintro _ w4 ⟨rfl,rfl⟩
       go_wp2
       go_ret3
       exact⟨rfl,HB2.out⟩
      ·rw[hz]at HMk
       have HZ:=aA hz
       clear hz
       go_wp2_with fail
       refine(HMk.out _).mono ?_;rintro _ w3 ⟨rfl,rfl⟩
       go_wp2
       go_round
       case rel =>
        refine⟨k+1,by omega,by omega,by go_num,?_⟩
        have e1:=HS.out;have e2:=HNk.out;rw[HZ.out]at e2;simp at e2;omega
       case measure=>simp[intOf];omega
     ·obtain rfl:k=p:=by have e1:=HS.out;have e2:=HE.out k (by omega);omega
      clear hr2
      go_wp2_with fail
      refine(HK.out _).mono ?_;rintro _ w4 ⟨rfl,rfl⟩
      go_wp2
      go_ret3
      exact⟨rfl,HB2.out⟩
   ·rw[if_neg hK0]
    have hK1:(T.wkind ((l.take (T.psize l)).drop 1) != 0)=true:=by simpa using hK0
    rw[hK1]at HK
    clear hK1
    have HN:=aA (fun k h=>T.run_next T.small l k h)
    have HE:=aA (fun k h=>T.run_end T.small l k h)
    have HP:Hid (T.psize l=1+T.run T.small (l.drop 1)):=aA rfl
    have HM:=aA (fun z w=>zcf z w)
    have HCV:=aA HC
    clear HC hK0 hr hl hm
    generalize hpp:T.psize l=p at *
    have HPP:=aA hpp
    clear hpp
    generalize K.str ((l.take p).drop 1)=s at *
    generalize hkd:T.wkind ((l.take p).drop 1)=kd at *
    have HKD:=aA hkd
    clear hkd
    generalize hD:dropA A c 1=D at *
    have HD:=aA hD
    clear hD
    go_enter Tryz.func114,Tryz.ntmps114
    go_wp2_with (simp only[V1])
    refine P1.out.mono ?_;rintro _ w1 ⟨rfl,hb⟩
    have HB:=aA hb
    clear hb
    go_wp2_with fail
    refine(P2.out _ HB.out).mono ?_;rintro _ w2 ⟨rfl,hb⟩
    have HB2:=aA (HB.out.trans (hb.mono HB.out.size))
    clear hb V1 V2 P1 P2
    have hr2:=HR.out _ HB2.out
    have S2:=zcS w2 A c l.length p hp1 (by omega)
    have C2:=HCV.out w2 _ hr2
    rw[HD.out]at S2
    clear HCV HB HR
    go_wp2
    go_loop [5] (fun vi=>∃(k:Nat),1≤k∧k≤l.length∧vi=.int .i64 k∧p=k+T.run T.small (l.drop k)) (fun vi=>l.length-(intOf vi).toNat)
    case atStart=>exact⟨1,Nat.le_refl _,by omega,rfl,HP.out⟩
    case round =>
     obtain⟨k,hk1,hk,rfl,hs⟩:=hrel
     have HS:=aA hs
     clear hs
     by_cases hlt:k<l.length
     ·obtain⟨g,o,hA1,_,hcl⟩:=hr2 (by omega)
      have hcell:=hcl k (by omega)
      have HNk:=aA (HN.out k hlt)
      have HMk:=aA (HM.out (l.getD k 0))
      clear hcl hr2
      generalize l.getD k 0=z at *
      subst hA1
      rcases hz:T.small z with _|_
      ·rw[hz]at HMk
       have HZ:=aA hz
       clear hz
       obtain rfl:k=p:=by have e1:=HS.out;have e2:=HNk.out;rw[HZ.out]at e2;simp at e2;omega
       go_wp2_with fail
       refine(HMk.out _).mono ?_;rintro _ w3 ⟨rfl,rfl⟩
       go_wp2_with fail
       refine(HK.out _).mono ?_;rintro _ w4 ⟨rfl,rfl⟩
       go_wp2
       go_ret3
       exact⟨rfl,HB2.out⟩
      ·rw[hz]at HMk
       have HZ:=aA hz
       clear hz
       go_wp2_with fail
       refine(HMk.out _).mono ?_;rintro _ w3 ⟨rfl,rfl⟩
       go_wp2
       go_round
       case rel =>
        refine⟨k+1,by omega,by omega,by go_num,?_⟩
        have e1:=HS.out;have e2:=HNk.out;rw[HZ.out]at e2;simp at e2;omega
       case measure=>simp[intOf];omega
     ·obtain rfl:k=p:=by have e1:=HS.out;have e2:=HE.out k (by omega);omega
      clear hr2
      go_wp2_with fail
      refine(HK.out _).mono ?_;rintro _ w4 ⟨rfl,rfl⟩
      go_wp2
      go_ret3
      exact⟨rfl,HB2.out⟩
theorem zdq (w:World) (A:Option Addr) (c n j:Nat) (h2:j≤c):(Instr.sliceAt 40 (.slice A n c) none (some (.int .i64 j)) none).run Tryz.prog w=.ok (.slice A j c) w:=by
 rw[run_sliceAt_slice _ _ _ _ _ _ (by kernel_rfl),run_slice_h _ _ _ _ _ (by kernel_rfl) .i64 (j:Int) (by omega) (by omega)]
 have hs:(sizeOf (Tryz.prog.elem 40)).run Tryz.prog w=.ok 1 w:=by kernel_rfl
 rw[hs]
 have e:∀A:Option Addr,A.map (fun x=>x.add 0)=A:=fun A=>by
  cases A with
  | none=>rfl
  | some x=>simp[Addr.add]
 simp[Result.andThen,sliced,e]
theorem zh6 (A:Option Addr) (c B:Nat) (l:List Int) (w:World) (hr:RdB w B A l) (hl:K.Bytes l) (hn:l.length≤5000) :
  Calls Tryz.prog 152 #[.slice A l.length c] w fun e w'=>e=.returned (.bool (T.isLit (l++[39])||T.isLit (l++[110,39])))∧w=w':=by
 have C1:=fun(w:World) (hr:RdB w B A l)=>zaH hr hl c
 have C2:=C1 w hr
 have hsz:((K.str l).size:Int)≤5000:=by rw[K.str_size];omega
 have P1:=aA (fun w=>zcs (l++[39]) (hl.app (aO [39] (by decide))) (by simp;omega) w)
 have P2:=aA (fun w=>zcs (l++[110,39]) (hl.app (aO [110,39] (by decide))) (by simp;omega) w)
 rw[←K.str_app,show K.str [39]=⟨#[39]⟩ from rfl]at P1
 rw[←K.str_app,show K.str [110,39]=⟨#[110,39]⟩ from rfl]at P2
 clear C1 hr hl
 generalize K.str l=s at *
 generalize T.isLit (l++[39])=b1 at *
 generalize T.isLit (l++[110,39])=b2 at *
 go_enter Tryz.func152,Tryz.ntmps152
 go_wp2_with (simp only[C2])
 refine(P1.out _).mono ?_;rintro _ w' ⟨rfl,rfl⟩
 cases b1
 ·go_wp2_with fail
  refine(P2.out _).mono ?_;rintro _ w' ⟨rfl,rfl⟩
  go_wp2
  go_ret
  exact⟨rfl,rfl⟩
 ·go_wp2
  go_ret
  exact⟨rfl,rfl⟩
theorem ze6 (A:Option Addr) (c B:Nat) (l:List Int) (w:World) (hr:RdB w B A l) (hl:K.Bytes l) (hc:l.length≤c) (hn:l.length≤5000) :
  Calls Tryz.prog 115 #[.slice A l.length c] w fun e w'=>e=.returned (p3v (T.literal l))∧w=w':=by
 have HCt:=aA (zh6 A c B l w hr hl hn)
 have HC:=aA (fun k (hk:k≤l.length)=>(by
  have:=zaH (hr.take k) (hl.take k) c
  rw[List.length_take,Nat.min_eq_left hk]at this
  exact this:(convert 40 9 (.slice A k c)).run Tryz.prog w=.ok (.string (K.str (l.take k))) w))
 have HL:=aA (fun k=>zcs (l.take k) (hl.take k) (by rw[List.length_take];omega))
 have HS:=aA (fun(w:World) k (hk:k≤l.length)=>zdq w A c l.length k (by omega))
 obtain⟨h,hh⟩:∃h:Nat,min (l.length:Int) 4=(h:Int):=⟨min l.length 4,by omega⟩
 have hh5:h≤4∧h≤l.length∧(h=4∨h=l.length):=by omega
 obtain⟨hh1,hh2,hh3⟩:=hh5
 have HH3:=aA hh3
 have HV:Hid (T.literal l=if T.isLit (l.take 3) then(2,3,0) else if T.isLit (l.take 4) then(2,4,0) else if T.isLit (l++[39])||T.isLit (l++[110,39]) then(0,0,4) else(0,0,3)):=aA rfl
 clear hr hl hh3
 generalize (T.isLit (l++[39])||T.isLit (l++[110,39]))=cut at *
 generalize T.literal l=R at *
 go_enter Tryz.func115,Tryz.ntmps115
 go_wp2
 go_loop [10] (fun vi=>∃(k:Nat),k≤h+1∧vi=.int .i64 k∧∀j,j<k→T.isLit (l.take j)=false) (fun vi=>h+1-(intOf vi).toNat)
 case atStart=>exact⟨0,by omega,rfl,fun j hj=>by omega⟩
 case round =>
  obtain⟨k,hk,rfl,hs⟩:=hrel
  have HR:=aA hs
  clear hs
  by_cases hlt:k<h+1
  ·have hkl:k≤l.length:=by omega
   have C2:=HC.out k hkl
   have S2:=HS.out w k hkl
   have HLk:=aA (HL.out k w)
   rcases hq:T.isLit (l.take k) with _|_
   ·rw[hq]at HLk
    have HQ:=aA hq
    clear hq
    generalize hst:K.str (l.take k)=s at *
    have HST:=aA hst
    clear hst
    go_wp2_with (first|simp only[S2]|simp only[C2])
    refine HLk.out.mono ?_;rintro _ w' ⟨rfl,rfl⟩
    go_wp2
    go_round
    case rel =>
     refine⟨k+1,by omega,by go_num,fun j hj=>?_⟩
     by_cases hjk:j=k
     ·subst hjk;exact HQ.out
     ·exact HR.out j (by omega)
    case measure=>simp[intOf];omega
   ·rw[hq]at HLk
    have HQ:=aA hq
    have HE:Hid (R=(2,k,0)):=aA (by
     have hlen:=T.isLit_len hq
     rw[List.length_take,Nat.min_eq_left hkl]at hlen
     rw[HV.out]
     rcases hlen with rfl|rfl
     ·rw[if_pos hq]
     ·rw[if_neg (by rw[HR.out 3 (by omega)];simp),if_pos hq])
    clear hq
    generalize hst:K.str (l.take k)=s at *
    have HST:=aA hst
    clear hst
    go_wp2_with (first|simp only[S2]|simp only[C2])
    refine HLk.out.mono ?_;rintro _ w' ⟨rfl,rfl⟩
    go_wp2
    go_ret3
    exact⟨by rw[HE.out];rfl,rfl⟩
  ·obtain rfl:k=h+1:=by omega
   have HE:Hid (R=if cut then(0,0,4) else(0,0,3)):=aA (by
    have h3:T.isLit (l.take 3)=false:=by
     rcases hq:T.isLit (l.take 3) with _|_
     ·rfl
     ·have:=T.isLit_len hq
      rw[List.length_take]at this
      have e:=HR.out 3 (by have:=HH3.out;omega)
      rw[e]at hq;cases hq
    have h4:T.isLit (l.take 4)=false:=by
     rcases hq:T.isLit (l.take 4) with _|_
     ·rfl
     ·have:=T.isLit_len hq
      rw[List.length_take]at this
      by_cases hl4:4≤l.length
      ·have e:=HR.out 4 (by have:=HH3.out;omega)
       rw[e]at hq;cases hq
      ·rw[List.take_of_length_le (by omega)]at hq
       rw[List.take_of_length_le (by omega)]at h3
       rw[h3]at hq;cases hq
    rw[HV.out,if_neg (by rw[h3];simp),if_neg (by rw[h4];simp)])
   cases cut
   ·go_wp2_with fail
    refine HCt.out.mono ?_;rintro _ w' ⟨rfl,rfl⟩
    go_wp2
    go_ret3
    exact⟨by rw[HE.out];rfl,rfl⟩
   ·go_wp2_with fail
    refine HCt.out.mono ?_;rintro _ w' ⟨rfl,rfl⟩
    go_wp2
    go_ret3
    exact⟨by rw[HE.out];rfl,rfl⟩
theorem zhR (A:Option Addr) (c B:Nat) (l:List Int) (w:World) (hr:RdB w B A l) (hn:l.length≤5000) :
  Calls Tryz.prog 116 #[.slice A l.length c] w fun e w'=>e=.returned (p3v (T.name l))∧w=w':=by
 have P1:=aA (zen A c B l w hr hn)
 have HV:Hid (T.name l=if T.nsize l=0 then(0,0,3) else if 20<T.nsize l then(0,0,5) else(1,T.nsize l,0)):=aA rfl
 generalize T.name l=R at *
 generalize T.nsize l=n at *
 by_cases h0:n=0
 ·subst h0
  have HE:Hid (R=(0,0,3)):=HV
  go_enter Tryz.func116,Tryz.ntmps116
  go_wp2_with fail
  refine P1.out.mono ?_;rintro _ w' ⟨rfl,rfl⟩
  go_wp2
  go_ret3
  exact⟨by rw[HE.out];rfl,rfl⟩
 ·have hb0:((n:Int)==0)=false:=beq_eq_false_iff_ne.2 (by omega)
  by_cases h20:20<n
  ·have HE:Hid (R=(0,0,5)):=aA (by rw[HV.out,if_neg h0,if_pos h20])
   have h20':(n:Int) > 20:=by omega
   clear h0 h20
   go_enter Tryz.func116,Tryz.ntmps116
   go_wp2_with fail
   refine P1.out.mono ?_;rintro _ w' ⟨rfl,rfl⟩
   go_wp2
   go_ret3
   exact⟨by rw[HE.out];rfl,rfl⟩
  ·have HE:Hid (R=(1,n,0)):=aA (by rw[HV.out,if_neg h0,if_neg h20])
   have h20':¬(n:Int) > 20:=by omega
   clear h0 h20
   go_enter Tryz.func116,Tryz.ntmps116
   go_wp2_with fail
   refine P1.out.mono ?_;rintro _ w' ⟨rfl,rfl⟩
   go_wp2
   go_ret3
   exact⟨by rw[HE.out];rfl,rfl⟩
theorem zhC (A:Option Addr) (hA:A≠none) (c:Nat) (l:List Int) (w:World) (hr:RdB w w.heap.size A l) (hl:K.Bytes l) (hc:l.length≤c) (h0:0<l.length) (hn:l.length≤5000) (hm:ML w) :
  Calls Tryz.prog 81 #[.slice A l.length c] w (Ans (T.piece l) w):=by
 obtain⟨g,o,hAe,_,hcl⟩:=hr (by omega)
 have hcell:w.cell? ⟨g,o,none⟩=some (.int .u8 (l.getD 0 0)):=hcl 0 (by omega)
 have HC:=aA (zfe A hA c l w hr hl hc hn hm)
 have HP:=aA (ze0 A hA c l w hr hl hc h0 hn hm)
 have HAc:=aA (zkG A c _ l w hr hc hn)
 have HLt:=aA (ze6 A c _ l w hr hl hc hn)
 have HNm:=aA (zhR A c _ l w hr hn)
 have HLn:=aA (zfN A hA c l w hr hl hc hn hm)
 have hlp:=T.line_pos l h0 hl
 have hll:=T.line_le l
 have HSk:=aA (fun(hz:l.getD 0 0≠10) (w1:World) (b1:Below w.heap.size w w1)=>zdr A hA c (T.line l) 1 [62] w1 (zks (hr.up b1)) (zgu hl) (hlp hz) (by omega) (by omega) (aO _ (by decide)) (by simp) (hm.up b1))
 rw[show K.str [62]=⟨#[62]⟩ from rfl]at HSk
 have HV:Hid (T.piece l=if l.getD 0 0=32∨l.getD 0 0=9∨l.getD 0 0=10∨l.getD 0 0=13 then(0,1,0) else if l.getD 0 0=47 then T.comment l else if l.getD 0 0=60 then T.skip (T.line l) 1 [62] else if l.getD 0 0=123 then T.action l else if l.getD 0 0=37 then T.percent l
  else if l.getD 0 0=39 then T.literal l else if l.getD 0 0=58 then(10,1,0) else if l.getD 0 0=124 then(11,1,0) else if l.getD 0 0=59 then(12,1,0) else T.name l):=aA rfl
 have HBr:=aA (Below.refl w.heap.size w)
 have HZ10:Hid (60≠(10:Int)):=aA (by decide)
 clear hr hl hm hcl hlp hll
 subst hAe
 generalize l.getD 0 0=z at *
 generalize T.comment l=x1 at *
 generalize T.skip (T.line l) 1 [62]=x2 at *
 generalize T.action l=x3 at *
 generalize T.percent l=x4 at *
 generalize T.literal l=x5 at *
 generalize T.name l=x6 at *
 generalize T.piece l=R at *
 by_cases e32:z=32
 ·subst e32
  obtain rfl:R=(0,1,0):=HV.out
  clear HC HP HAc HLt HNm HLn HSk HV
  go_enter Tryz.func81,Tryz.ntmps81
  go_wp2
  go_ret3
  exact⟨rfl,HBr.out⟩
 have n32:(z==32)=false:=by simpa using e32
 by_cases e9:z=9
 ·subst e9
  obtain rfl:R=(0,1,0):=HV.out
  clear HC HP HAc HLt HNm HLn HSk HV e32
  go_enter Tryz.func81,Tryz.ntmps81
  go_wp2
  go_ret3
  exact⟨rfl,HBr.out⟩
 have n9:(z==9)=false:=by simpa using e9
 by_cases e10:z=10
 ·subst e10
  obtain rfl:R=(0,1,0):=HV.out
  clear HC HP HAc HLt HNm HLn HSk HV e32 e9
  go_enter Tryz.func81,Tryz.ntmps81
  go_wp2
  go_ret3
  exact⟨rfl,HBr.out⟩
 have n10:(z==10)=false:=by simpa using e10
 by_cases e13:z=13
 ·subst e13
  obtain rfl:R=(0,1,0):=HV.out
  clear HC HP HAc HLt HNm HLn HSk HV e32 e9 e10
  go_enter Tryz.func81,Tryz.ntmps81
  go_wp2
  go_ret3
  exact⟨rfl,HBr.out⟩
 have n13:(z==13)=false:=by simpa using e13
 by_cases e47:z=47
 ·subst e47
  obtain rfl:R=x1:=HV.out
  clear HP HAc HLt HNm HLn HSk HV e32 e9 e10 e13
  go_enter Tryz.func81,Tryz.ntmps81
  go_wp2_with fail
  refine HC.out.mono ?_;rintro _ w' hans
  obtain⟨k,n,d,rfl,rfl,hb⟩:=hans.parts
  have HB:=aA hb
  clear hb hans
  go_wp2
  go_ret3
  exact⟨rfl,HB.out⟩
 have n47:(z==47)=false:=by simpa using e47
 by_cases e60:z=60
 ·subst e60
  obtain rfl:R=x2:=HV.out
  replace HSk:=aA (HSk.out HZ10.out)
  obtain⟨k,n,d⟩:=R
  simp only[p3v]at HSk
  clear HC HP HAc HLt HNm HV e32 e9 e10 e13 e47
  generalize T.line l=ln at *
  go_enter Tryz.func81,Tryz.ntmps81
  go_wp2_with fail
  refine HLn.out.mono ?_;rintro _ w1 ⟨rfl,hb⟩
  have HB:=aA hb
  clear hb
  go_wp2_with fail
  refine(HSk.out _ HB.out).mono ?_;rintro _ w2 ⟨rfl,hb⟩
  have HB2:=aA (HB.out.trans (hb.mono HB.out.size))
  clear hb
  go_wp2
  go_ret3
  exact⟨rfl,HB2.out⟩
 have n60:(z==60)=false:=by simpa using e60
 by_cases e123:z=123
 ·subst e123
  obtain rfl:R=x3:=HV.out
  obtain⟨k,n,d⟩:=R
  simp only[p3v]at HAc
  clear HC HP HLt HNm HLn HSk HV e32 e9 e10 e13 e47 e60
  go_enter Tryz.func81,Tryz.ntmps81
  go_wp2_with fail
  refine HAc.out.mono ?_;rintro _ w' ⟨rfl,rfl⟩
  go_wp2
  go_ret3
  exact⟨rfl,HBr.out⟩
 have n123:(z==123)=false:=by simpa using e123
 by_cases e37:z=37
 ·subst e37
  obtain rfl:R=x4:=HV.out
  clear HC HAc HLt HNm HLn HSk HV e32 e9 e10 e13 e47 e60 e123
  go_enter Tryz.func81,Tryz.ntmps81
  go_wp2_with fail
  refine HP.out.mono ?_;rintro _ w' hans
  obtain⟨k,n,d,rfl,rfl,hb⟩:=hans.parts
  have HB:=aA hb
  clear hb hans
  go_wp2
  go_ret3
  exact⟨rfl,HB.out⟩
 have n37:(z==37)=false:=by simpa using e37
 by_cases e39:z=39
 ·subst e39
  obtain rfl:R=x5:=HV.out
  obtain⟨k,n,d⟩:=R
  simp only[p3v]at HLt
  clear HC HP HAc HNm HLn HSk HV e32 e9 e10 e13 e47 e60 e123 e37
  go_enter Tryz.func81,Tryz.ntmps81
  go_wp2_with fail
  refine HLt.out.mono ?_;rintro _ w' ⟨rfl,rfl⟩
  go_wp2
  go_ret3
  exact⟨rfl,HBr.out⟩
 have n39:(z==39)=false:=by simpa using e39
 by_cases e58:z=58
 ·subst e58
  obtain rfl:R=(10,1,0):=HV.out
  clear HC HP HAc HLt HNm HLn HSk HV e32 e9 e10 e13 e47 e60 e123 e37 e39
  go_enter Tryz.func81,Tryz.ntmps81
  go_wp2
  go_ret3
  exact⟨rfl,HBr.out⟩
 have n58:(z==58)=false:=by simpa using e58
 by_cases e124:z=124
 ·subst e124
  obtain rfl:R=(11,1,0):=HV.out
  clear HC HP HAc HLt HNm HLn HSk HV e32 e9 e10 e13 e47 e60 e123 e37 e39 e58
  go_enter Tryz.func81,Tryz.ntmps81
  go_wp2
  go_ret3
  exact⟨rfl,HBr.out⟩
 have n124:(z==124)=false:=by simpa using e124
 by_cases e59:z=59
 ·subst e59
  obtain rfl:R=(12,1,0):=HV.out
  clear HC HP HAc HLt HNm HLn HSk HV e32 e9 e10 e13 e47 e60 e123 e37 e39 e58 e124
  go_enter Tryz.func81,Tryz.ntmps81
  go_wp2
  go_ret3
  exact⟨rfl,HBr.out⟩
 have n59:(z==59)=false:=by simpa using e59
 have HE:Hid (R=x6):=aA (by rw[HV.out];simp only[e32,e9,e10,e13,e47,e60,e123,e37,e39,e58,e124,e59,or_self,if_false])
 obtain rfl:=HE.out
 obtain⟨k,n,d⟩:=R
 simp only[p3v]at HNm
 clear HC HP HAc HLt HLn HSk HV HE e32 e9 e10 e13 e47 e60 e123 e37 e39 e58 e124 e59
 go_enter Tryz.func81,Tryz.ntmps81
 go_wp2_with fail
 refine HNm.out.mono ?_;rintro _ w' ⟨rfl,rfl⟩
 go_wp2
 go_ret3
 exact⟨rfl,HBr.out⟩
end Go.Proofs.YtkfelkpilaipnaaGreatDoor
