/- Part of the proofs over this program: FstFn, FstGrow, FstKnown, FstKnow2, FstOf, FirstQ, SliceI, LkTails, LkPass. -/
import Derived.Test.YtcmhaemaophplaaGreatXK
set_option linter.all false
namespace Go
def D7:=@List.replicate_zero
end Go
open Go.RowKit Go.Proofs.Tryz
set_option maxRecDepth 100000
set_option maxHeartbeats 40000000
namespace Go.Proofs.YtcmhaemaophplaaGreat
variable {D M base d g k n:Nat} {G:Gm.Gr} {j z:Int} {l r:List Int} {w w':Go.World}
theorem JT (z:Int) (w:World) :
  Calls prog 178 #[.int .i64 z] w fun e w'=>e=.returned (.bool (decide (z<0)))/\w'=w:=by
 go_enter func178,ntmps178
 go_wp2;go_ret
 exact⟨rfl,rfl⟩
theorem KZ (z:Int) (hz:-9223372036854775808<=z) (aa:z<=9223372036854775807) (w:World) :
  Calls prog 179 #[.int .i64 z] w fun e w'=>e=.returned (.int .i64 (-1-z))/\w'=w:=by
 have hs:IntKind.i64.wrap (-1-z) = -1-z:=B3 _ (by omega);clear hz aa
 go_enter func179,ntmps179
 go_wp2;go_ret
 exact⟨rfl,rfl⟩
theorem Pc (n:Int) (w:World) :
  Calls prog 180 #[.int .i64 n] w fun e w'=>e=.returned (.int .u32 (S.bit n))/\Below w.heap.size w w':=by
 have H:=aA (show Calls prog 190 #[.slice (some ⟨w.heap.size,0,none⟩) 1 1] (w.alloc (.cells #[.int .i64 n] 3)) _ from Qs (some ⟨w.heap.size,0,none⟩) 1 (w.alloc (tR [n])).heap.size [n] (w.alloc (tR [n])) (zY w [n]).1 (by simp));have HB:=aA (zY w [n]).2;rw[S.yK]at H
 go_enter func180,ntmps180
 go_wp2_with fail
 refine H.o.mono ?_;rintro _ w2 ⟨rfl,q,rfl⟩;go_wp2;go_ret
 exact⟨rfl,aB HB.o q⟩
def Gm.qI (fs:List Nat) (z:Int):Nat:=if 0<=z then 2 ^ z.toNat else fs.getD (-1-z).toNat 0
def Gm.tc (nu:List Bool) (z:Int):Bool:=decide (z<0)&&nu.getD (-1-z).toNat false
theorem Gm.uF (nu:List Bool) (fs:List Nat) (rest:Nat) (z:Int) (r:List Int):Gm.iN nu fs rest (z::r)=Gm.qI fs z ||| (if Gm.tc nu z=true then Gm.iN nu fs rest r else 0):=by
 rw[Gm.iN];unfold Gm.qI Gm.tc;by_cases h:0<=z
 ·rw[AC h,AC h,AM (by omega)];simp
 ·rw[AI h,AI h,AQ (by omega)];simp
theorem Gm.ym {fs:List Nat} (h:Gm.lG fs) (hz:z<=31):Gm.qI fs z<4294967296:=by
 unfold Gm.qI;split
 ·have:=BQ (n:=2) (by decide) (show z.toNat<=31 by omega)
  omega
 ·exact h _
theorem OR (z:Int) (fs:List Nat) (A A2:Option Addr) (n c c2 B:Nat) (w:World) (hz:Gm.In z) (ab:z<=31) (hs:z<0->-1-z<(fs.length:Int)) (hr:pB w B A2 fs) (hB:B<=w.heap.size) :
  Calls prog 154 #[.agg #[.slice A n c,.slice A2 fs.length c2],.int .i64 z] w fun e w'=>e=.returned (.int .u32 (Gm.qI fs z))/\Below w.heap.size w w':=by
 unfold Gm.In at hz;have HI:=aA (fun w=>JT z w);have HX:=aA (fun w=>KZ z hz.1 hz.2 w);have HO:=aA (fun w=>Pc z w);have HB:=aA (fun o=>(AB w.heap.size w).alloc (Af _) o);by_cases h0:z<0
 ·have hm:=hs h0;have d:Gm.qI fs z=fs.getD (-1-z).toNat 0:=by unfold Gm.qI;rw[AI (by omega)]
  obtain⟨m,he⟩:∃m:Nat,-1-z=(m:Int):=⟨(-1-z).toNat,by omega⟩
  rw[d];rw[he]at HX hm ⊢;have ad:m<fs.length:=by omega
  obtain⟨g,o,rfl,af,hc⟩:=hr.addr (by omega);have k0:=hc m ad;have ag:g<w.heap.size:=by omega
  simp only[Cq];rw[AQ h0]at HI;generalize fs.getD m 0=b at *;clear hz hs hr hc h0 he ab d HO
  go_enter func154,ntmps154
  go_wp2_with fail
  refine(HI.o _).mono ?_;rintro _ w2 ⟨rfl,aa⟩;subst aa;go_wp2_with fail
  go_quiet ((go_at_call 179;exact Dy (HX.o _)))
  go_wp2;go_ret
  exact⟨rfl,aB (HB.o _) _⟩
 ·have d:Gm.qI fs z=S.bit z:=by unfold Gm.qI S.bit;rw[AC (by omega),AC (by omega)]
  rw[d];rw[AM h0]at HI;clear hz hs hr h0 HX ab d
  go_enter func154,ntmps154
  go_wp2_with fail
  refine(HI.o _).mono ?_;rintro _ w2 ⟨rfl,aa⟩;subst aa;go_wp2_with fail
  refine(HO.o _).mono ?_;rintro _ w2 ⟨rfl,ac⟩;have ae:=aA ((HB.o _).trans (ac.mono (by simp)));clear ac;go_wp2;go_ret
  exact⟨rfl,ae.o⟩
theorem Ps (z:Int) (nu:List Bool) (A A2:Option Addr) (n c c2 B:Nat) (w:World) (hz:Gm.In z) (hs:z<0->-1-z<(nu.length:Int)) (hr:jl w B A nu) (hB:B<=w.heap.size) :
  Calls prog 155 #[.agg #[.slice A nu.length c,.slice A2 n c2],.int .i64 z] w fun e w'=>e=.returned (.bool (Gm.tc nu z))/\Below w.heap.size w w':=by
 unfold Gm.In at hz;have HI:=aA (fun w=>JT z w);have HX:=aA (fun w=>KZ z hz.1 hz.2 w);have HB:=aA (fun o=>(AB w.heap.size w).alloc (Af _) o);by_cases h0:z<0
 ·have hm:=hs h0;have d:Gm.tc nu z=nu.getD (-1-z).toNat false:=by unfold Gm.tc;rw[AQ h0,Ck]
  obtain⟨m,he⟩:∃m:Nat,-1-z=(m:Int):=⟨(-1-z).toNat,by omega⟩
  rw[d];rw[he]at HX hm ⊢;have aa:m<nu.length:=by omega
  obtain⟨g,o,rfl,ab,hc⟩:=hr (by omega);have k0:=hc m aa;have ac:g<w.heap.size:=by omega
  simp only[Cq];rw[AQ h0]at HI;generalize nu.getD m false=b at *;clear hz hs hr hc h0 he d
  go_enter func155,ntmps155
  go_wp2_with fail
  go_quiet (first|(go_at_call 179;exact Dy (HX.o _))|(go_at_call 178;exact Dy (HI.o _)))
  go_wp2;go_ret
  exact⟨rfl,aB (HB.o _) _⟩
 ·have d:Gm.tc nu z=false:=by unfold Gm.tc;rw[AM h0,CI]
  rw[d];rw[AM h0]at HI;clear hz hs hr h0 HX d
  go_enter func155,ntmps155
  go_wp2_with fail
  go_quiet ((go_at_call 178;exact Dy (HI.o _)))
  go_wp2;go_ret
  exact⟨rfl,aB (HB.o _) _⟩
theorem Gm.qd (nu:List Bool) (fs:List Nat) (rest:Nat) (l:List Int) (k:Nat) (hk:k<l.length) (s:Nat):s ||| Gm.iN nu fs rest (l.drop k)=(s ||| Gm.qI fs l[k]) ||| (if Gm.tc nu l[k]=true then Gm.iN nu fs rest (l.drop (k+1)) else 0):=by
 rw[BV hk,Gm.uF,Nat.or_assoc]
theorem Lx (l:List Int) (rest:Nat) (nu:List Bool) (fs:List Nat) (A A1 A2:Option Addr) (c c1 c2 B B1 B2:Nat) (w:World) (hr:gd w B A l) (h1:jl w B1 A1 nu) (h2:pB w B2 A2 fs) (hB:B<=w.heap.size) (ap:B1<=w.heap.size) (aq:B2<=w.heap.size) (ac:∀z∈l,Gm.In z) (ad:∀z∈l,z<=31) (hs:∀z∈l,z<0->-1-z<(fs.length:Int)) (hn:nu.length=fs.length) (hf:Gm.lG fs) (aa:rest<4294967296) (hl:l.length<=9223372036854775807) :
  Calls prog 116 #[.agg #[.slice A1 nu.length c1,.slice A2 fs.length c2],.slice A l.length c,.int .u32 rest] w fun e w'=>e=.returned (.int .u32 (Gm.iN nu fs rest l))/\Below w.heap.size w w':=by
 have i:=aA ((AB w.heap.size w).alloc (Af _) (.cells #[.slice A1 nu.length c1,.slice A2 fs.length c2] 185));obtain⟨wk,j⟩:∃y,y=w.alloc (.cells #[.slice A1 nu.length c1,.slice A2 fs.length c2] 185):=⟨_,rfl⟩
 have HS:Hid (wk.heap.size=w.heap.size+1):=aA (by rw[j];simp);have hd:w.heap.size<wk.heap.size:=by rw[HS.o];omega
 have HK:=aA (show wk.heap[w.heap.size]?=some (.cells #[.slice A1 nu.length c1,.slice A2 fs.length c2] 185 (0,0)) by rw[j];exact AG w _);rw[<-j]at i;have ar:=aA (hr.below i.o hB);have au:=aA hB;have av:=aA (fun(y:World) (hy:Below wk.heap.size wk y) z (hz:z∈l)=>OR z fs A1 A2 nu.length c1 c2 B2 y (ac z hz) (ad z hz) (hs z hz) (h2.fp fun g o hg=>((i.o.trans (hy.mono (CQ hd))).cell (p:=⟨g,o,none⟩) (by simp only;omega))) (by have:=hy.size;omega));have aw:=aA (fun(y:World) (hy:Below wk.heap.size wk y) z (hz:z∈l)=>Ps z nu A1 A2 fs.length c1 c2 B1 y (ac z hz) (fun h=>by rw[hn];exact hs z hz h) (h1.fp fun g o hg=>((i.o.trans (hy.mono (CQ hd))).cell (p:=⟨g,o,none⟩) (by simp only;omega))) (by have:=hy.size;omega));have ax:=aA (fun z hz=>Gm.ym hf (ad z hz));have ay:=aA aa;have az:=aA (Gm.qd nu fs rest l);have ae:=aA (fun(k:Nat) (hk:k<l.length)=>AE hk);have h0:(l.length:Int)<=9223372036854775807:=by omega
 obtain⟨r,af⟩:∃r,r=Gm.iN nu fs rest l:=⟨_,rfl⟩
 have a0:=aA af;rw[<-af];clear hr h1 h2 ac ad hs hn hf hB ap aq hl af aa
 go_enter func116,ntmps116
 go_upto_region 1 with fail
 rw[<-j];clear j;go_wp2;go_loopw [12,7] (fun vi vs wr=>∃(k s:Nat),k<=l.length/\vi=.int .i64 k/\vs=.int .u32 s/\Hid (s<4294967296)/\Hid (r=s ||| Gm.iN nu fs rest (l.drop k))/\Hid (Below wk.heap.size wk wr)) (fun vi _ _=>l.length-(intOf vi).toNat)
 case atStart=>exact⟨0,0,AV _,rfl,rfl,aA (by decide),aA (by rw[a0.o];simp),aA (AB _ _)⟩
 case round =>
  obtain⟨k,s,hk,rfl,rfl,HL,HE,d⟩:=hrel;have kc:wr.heap[w.heap.size]?=some (.cells #[.slice A1 nu.length c1,.slice A2 fs.length c2] 185 (0,0)):=(d.o.block w.heap.size hd).trans HK.o;have q0:=AF wr _ 0 _ _ _ kc;have q1:=AF wr _ 1 _ _ _ kc;have a2:w.heap.size<wr.heap.size:=Ah hd d.o.size;by_cases f:k<l.length
  ·obtain⟨g,o,rfl,a3,hc⟩:=(ar.o.fp fun g o hg=>(d.o.cell (p:=⟨g,o,none⟩) (by have:=au.o;simp only;omega))) (by omega)
   have k0:=hc k f;rw[L.fy f]at k0;have a1:=aA (fun y hy=>av.o y hy _ (ae.o k f));have ag:=aA (fun y hy=>aw.o y hy _ (ae.o k f));have ab:=aA (HE.o.trans (az.o k f s));have ah:=aA (ax.o _ (ae.o k f));clear hc;generalize l[k]=z at *;have ho:=aA (DS s (Gm.qI fs z) HL.o ah.o);have ai:=aA (Gm.qe HL.o ah.o);generalize Gm.qI fs z=b at *;obtain⟨s2,aj⟩:∃s2,s2=s ||| b:=⟨_,rfl⟩
   rw[<-aj]at ho ai ab;clear aj;cases ak:Gm.tc nu z
   all_goals
    rw[ak]at ag ab;clear ak;go_wp2_with fail
    refine(a1.o _ d.o).mono ?_;rintro _ w2 ⟨rfl,al⟩;have m:=aA (d.o.trans (al.mono d.o.size));have kc2:=(m.o.block w.heap.size hd).trans HK.o;have p0:=AF w2 _ 0 _ _ _ kc2;have p1:=AF w2 _ 1 _ _ _ kc2;have a4:w.heap.size<w2.heap.size:=Ah hd m.o.size;clear q0 q1 kc k0 al kc2;go_wp2_with fail
    refine(ag.o _ m.o).mono ?_;rintro _ w3 ⟨rfl,am⟩;have ao:=aA (m.o.trans (am.mono m.o.size));clear am;go_wp2_with fail
   focus
    go_ret
    refine⟨aU ?_,i.o.trans (ao.o.mono (CQ hd))⟩;rw[ho.o,ab.o];simp
   focus
    go_roundw
    case rel=>exact⟨k+1,s2,f,by go_num,by rw[ho.o],ai,aA (by rw[ab.o];simp),ao⟩
    case measure=>simp[intOf];omega
  ·obtain rfl:k=l.length:=by omega
   have ho:=aA (DS s rest HL.o ay.o);have HX:Hid (r=s ||| rest):=aA (by rw[HE.o,Ew];rfl);go_wp2_with fail
   go_ret
   exact⟨aU (by rw[ho.o,HX.o]),i.o.trans (d.o.mono (CQ hd))⟩
structure kQ (w wr:World) (gk n ck:Nat) (s:List Nat) (b:Bool):Prop where
 u:gK wr gk s
 l:s.length=n
 q:wr.heap[w.heap.size]?=some (.cells #[.slice (some ⟨gk,0,none⟩) n ck] 41 (0,0))
 p:wr.heap[w.heap.size+1]?=some (.cells #[.bool b] 4 (0,0))
 g:w.grownBy wr (some gk)
 k:gk<w.heap.size
section
variable {w wr w':World} {gk n ck:Nat} {s:List Nat} {b:Bool}
theorem kQ.below (h:kQ w wr gk n ck s b) (hb:Below wr.heap.size wr w'):kQ w w' gk n ck s b:=⟨h.u.below hb h.u.lt,h.l,aC hb h.q,aC hb h.p,qO h.g (aK hb _),h.k⟩
theorem kQ.alloc (h:kQ w wr gk n ck s b) (o:Obj):kQ w (wr.alloc o) gk n ck s b:=h.below ((AB _ wr).alloc (Af _) o)
theorem kQ.drewN (h:kQ w wr gk n ck s b) (m:Nat):kQ w (wr.drewN m) gk n ck s b:=⟨h.u,h.l,h.q,h.p,Gp h.g m,h.k⟩
theorem kQ.hs (h:kQ w wr gk n ck s b):w.heap.size+1<wr.heap.size:=(Ad.1 h.p).1
theorem kQ.Fb (h:kQ w wr gk n ck s b) (b':Bool):kQ w (wr.setCell ⟨w.heap.size+1,0,none⟩ (.bool b')) gk n ck s b' :=
 ⟨h.u.jr (by have:=h.k;simp only;omega) _,h.l,(AU wr ⟨w.heap.size+1,0,none⟩ _ _ (by simp only;omega)).trans h.q,AZ wr _ 0 _ _ _ h.p,⟨h.g.os,h.g.tape,h.g.output,by have:=h.g.size;simpa using this,fun i hi aa=>(AU wr ⟨w.heap.size+1,0,none⟩ _ i (by simp only;omega)).trans (h.g.block i hi aa)⟩,h.k⟩
theorem kQ.put (h:kQ w wr gk n ck s b) (m v:Nat):kQ w (wr.setCell ⟨gk,m,none⟩ (.int .u32 (v:Int))) gk n ck (s.set m v) b :=
 ⟨h.u.jY m v,by rw[BX];exact h.l,(AU wr ⟨gk,m,none⟩ _ _ (by have:=h.k;simp only;omega)).trans h.q,(AU wr ⟨gk,m,none⟩ _ _ (by have:=h.k;simp only;omega)).trans h.p,aF h.g m _,h.k⟩
end
def bC (w:World) (g:Nat):Nat:=match w.heap[g]? with
 | some (.cells cs _ _)=>bN (cs.getD 0 undef)
 | _=>0
theorem MN {b:Bool} {t:TypeId} {f:Nat×Nat} (h:w.heap[g]?=some (.cells #[.bool b] t f)):bC w g=if b=true then 1 else 0:=by
 unfold bC;rw[h];cases b <;> rfl
theorem PI (w wr:World) (gk n ck:Nat) (s:List Nat) (b:Bool) (m v:Nat) (hm:m<n) (hv:v<4294967296) (hs:Gm.lG s) (h:kQ w wr gk n ck s b) :
  Calls prog 177 #[.int .i64 m,.int .u32 v,.pointer (some ⟨w.heap.size+1,0,none⟩),.pointer (some ⟨w.heap.size,0,none⟩)] wr fun e w'=>e=.returned (.tuple #[])/\kQ w w' gk n ck (Gm.iX s m v) (b||decide (Gm.iX s m v≠s))/\w'.heap.size=wr.heap.size/\∀i,i≠gk->i≠w.heap.size+1->w'.heap[i]?=wr.heap[i]?:=by
 have aa:m<s.length:=by rw[h.l];exact hm
 have HN:=aA (Gm.lo (hs m) hv);have HA:=aA (Gm.sT (v:=v) aa);have hx:=u32_andNot_nat v (s.getD m 0) hv (hs m);have ho:=DS (s.getD m 0) v (hs m) hv;have HH:=aA h;have c0:=aS h.q;have c1:=aS h.p;have f1:=AH wr _ 0 _ _ h.p;have cm:=h.u.cell m aa;have hd:=h.hs;have ad:=h.u.lt;have ae:(m:Int)<(n:Int):=by omega
 generalize hB:(b||decide (Gm.iX s m v≠s))=b2;have HB:=aA hB;obtain⟨wy,f⟩:∃y,y=wr.setCell ⟨w.heap.size+1,0,none⟩ (.bool b2):=⟨_,rfl⟩
 have hy:kQ w wy gk n ck s b2:=by rw[f];exact h.Fb b2
 have HZ:=aA (show kQ w (wy.setCell ⟨gk,m,none⟩ (.int .u32 ((s.getD m 0 ||| v:Nat):Int))) gk n ck (Gm.iX s m v) b2 from hy.put m _);have ab:Hid (wy.heap.size=wr.heap.size):=aA (by rw[f];simp);have ac:Hid (∀i,i≠gk->i≠w.heap.size+1->(wy.setCell ⟨gk,m,none⟩ (.int .u32 ((s.getD m 0 ||| v:Nat):Int))).heap[i]?=wr.heap[i]?):=aA (fun i h1 h2=>by rw[AU _ _ _ _ (by simp only;exact h1),f,AU _ _ _ _ (by simp only;exact h2)]);have e0:=aS hy.q;have em:=hy.u.cell m aa;have fm:=hy.u.frozen m;have af:=hy.hs;have ag:=hy.u.lt;clear hy hB h hs hm aa hv;cases b
 ·rw[ES]at HB
  have ah:(((v &&& (4294967295-s.getD m 0):Nat):Int) != 0)=b2:=by
   have h1:=HN.o;have h2:=HA.o;rw[<-HB.o];by_cases e:v &&& (4294967295-s.getD m 0)=0
   ·rw[e,AM (p:=Gm.iX s m v≠s) (fun hn=>hn (h2.2 (h1.1 e)))];rfl
   ·rw[AQ (p:=Gm.iX s m v≠s) (fun he=>e (h1.2 (h2.1 he)))];rw[D4];omega
  generalize v &&& (4294967295-s.getD m 0)=d at *;generalize s.getD m 0 ||| v=d2 at *;generalize s.getD m 0=d3 at *;clear HN HA HB HH
  go_enter func177,ntmps177
  go_upto_region 1 with fail
  rw[<-f];clear f c0 c1 f1 cm;go_wp2;go_end0
  exact⟨rfl,HZ.o,by rw[<-ab.o];simp,ac.o⟩
 ·rw[Dw]at HB;obtain rfl:=HB.o;generalize s.getD m 0 ||| v=d2 at *;generalize s.getD m 0=d3 at *;clear HN HA HB HH hx
  go_enter func177,ntmps177
  go_upto_region 1 with fail
  rw[<-f];clear f c0 c1 f1 cm;go_wp2;go_end0
  exact⟨rfl,HZ.o,by rw[<-ab.o];simp,ac.o⟩
theorem Gm.yA {s s1 s2:List Nat} (h1:Gm.kF s s1) (h2:Gm.kF s1 s2):(decide (s1≠s)||decide (s2≠s1))=decide (s2≠s):=by
 by_cases e:s1=s
 ·subst e;simp
 ·rw[AQ e,Dw]
  symm
  rw[Cg];rintro rfl;exact e (h1.mD h2)
theorem Pb (fb:Nat) (caps:Array Value) (hE:∀args w,Sem.run prog (callFunc fb args) w=.ok (.enter fb args) w) (rs:List Gm.Rl) (AR:Option Addr) (cR ck B gk n:Nat) (w:World) (s0:List Nat) (P:List Nat->Prop) (br:List Nat->Gm.Rl->List Nat) (hR:qR w B AR rs) (hB:B<=w.heap.size) (ak:B<=gk) (hu:gK w gk s0) (hn:s0.length=n) (h0:P s0) (hl:rs.length<=1000000) (al:∀s x,Gm.kF s (br s x)) (hP:∀s x,x∈rs->P s->P (br s x)) (am:∀s,P s->Gm.lG s) (ao:∀(y:World) (s:List Nat) (b:Bool) (x:Gm.Rl) (A':Option Addr) (c':Nat),kQ w y gk n ck s b->P s->x∈rs->gd y B A' x.r->x.r.length<=c'->Calls prog fb (#[.agg #[.int .i64 x.l,.slice A' x.r.length c',.int .i64 x.p],.func (Fn.func 177) #[] #[.pointer (some ⟨w.heap.size+1,0,none⟩),.pointer (some ⟨w.heap.size,0,none⟩)]]++caps) y fun e w'=>e=.returned (.tuple #[])/\kQ w w' gk n ck (br s x) (b||decide (br s x≠s))/\y.heap.size<=w'.heap.size) :
  Calls prog 152 #[.slice (some ⟨gk,0,none⟩) n ck,.slice AR rs.length cR,.func (Fn.func fb) #[] caps] w fun e w'=>e=.returned (.tuple #[])/\∃s,P s/\(∀x∈rs,br s x=s)/\gK w' gk s/\s.length=n/\w.grownBy w' (some gk):=by
 have HR:=aA hR;have HB:=aA hB;have HK:=aA ak;have ax:=aA ao;have ap:=aA al;have HP:=aA hP;have ay:=aA am;have az:(rs.length:Int)<=9223372036854775807:=by omega
 have ac:=AG w (.cells #[.slice (some ⟨gk,0,none⟩) n ck] 41);have ad:=hu.alloc (.cells #[.slice (some ⟨gk,0,none⟩) n ck] 41);obtain⟨w1,f⟩:∃y,y=w.alloc (.cells #[.slice (some ⟨gk,0,none⟩) n ck] 41):=⟨_,rfl⟩
 rw[<-f]at ac ad;have a0:w1.heap.size=w.heap.size+1:=by rw[f];simp
 have aq:w.grownBy w1 (some gk):=by rw[f];exact aL (AJ _ _) _
 have ae:kQ w (w1.alloc (.cells #[.bool true] 4)) gk n ck s0 true :=
  ⟨ad.alloc _,hn,(Bs _ _ _ (by omega)).trans ac,by rw[<-a0];exact AG w1 _,aL aq _,hu.lt⟩
 obtain⟨w2,af⟩:∃y,y=w1.alloc (.cells #[.bool true] 4):=⟨_,rfl⟩
 rw[<-af]at ae;have a1:=aA ae;have H0:=aA h0;clear hR hB ak hu hn hl ao al hP am ac ad aq ae h0
 go_enter func152,ntmps152
 go_upto_region 1 with fail
 rw[<-f];clear f;go_upto_region 2 with fail
 rw[<-af];clear af;go_wp2;go_loopw [11] (fun _ wr=>∃(s:List Nat) (b:Bool),Hid (kQ w wr gk n ck s b)/\Hid (P s)/\Hid (b=false->∀x∈rs,br s x=s)) (fun _ wr=>2*Jf wr gk+bC wr (w.heap.size+1))
 case atStart=>exact⟨s0,true,a1,H0,aA (fun h=>by cases h)⟩
 case round =>
  obtain⟨s,b,HG,HS,HC⟩:=hrel;obtain⟨wo,a2⟩:∃wo:World,wo=wr:=⟨_,rfl⟩
  subst a2;have c1:=aS HG.o.p;have f1:=AH wo _ 0 _ _ HG.o.p;have hd:=HG.o.hs;cases b
  ·go_wp2;go_end0
   exact⟨rfl,s,HS.o,HC.o (by trivial),HG.o.u,HG.o.l,HG.o.g⟩
  ·clear HC;obtain⟨wf,ag⟩:∃y,y=wo.setCell ⟨w.heap.size+1,0,none⟩ (.bool false):=⟨_,rfl⟩
   have HF:Hid (kQ w wf gk n ck s false):=aA (by rw[ag];exact HG.o.Fb false);go_upto_region 5 with fail
   rw[<-ag];clear c1 f1 ag;go_wp2;go_loopw [14] (fun vi wr=>∃(s1:List Nat) (b1:Bool) (i:Nat),i<=rs.length/\vi=.int .i64 i/\Hid (kQ w wr gk n ck s1 b1)/\Hid (P s1)/\Hid (Gm.kF s s1)/\Hid (b1=decide (s1≠s))/\Hid (s1=(rs.take i).foldl br s)) (fun vi _=>rs.length-(intOf vi).toNat)
   case atStart=>exact⟨s,false,0,AV _,rfl,HF,HS,aA (Gm.kF.refl _),aA (by simp),aA rfl⟩
   case round =>
    obtain⟨s1,b1,i,hi,rfl,d,aa,ah,ab,ai⟩:=hrel;obtain⟨wi,a3⟩:∃wi:World,wi=wr:=⟨_,rfl⟩
    subst a3;by_cases j:i<rs.length
    ·obtain⟨g,o,rfl,aj,hc⟩:=HR.o (by omega);obtain⟨k0,⟨A',c',k1,ar,_,au⟩,k2⟩:=hc i j;have k0:=(vA d.o.g HB.o HK.o aj).trans k0;have k1:=(vA d.o.g HB.o HK.o aj).trans k1;have k2:=(vA d.o.g HB.o HK.o aj).trans k2;have a4:g<wi.heap.size:=by have:=d.o.g.size;have:=HB.o;omega
     have a5:=aA (fun(o:Obj)=>ax.o (wi.alloc o) s1 b1 rs[i] A' c' (d.o.alloc o) aa.o (AE j) (au.fp fun g o hg=>vA (d.o.alloc _).g HB.o HK.o hg) ar);have av:=aA (ap.o s1 rs[i]);have a6:=aA (HP.o s1 rs[i] (AE j) aa.o);have a9:Hid (rs.take (i+1)=rs.take i++[rs[i]]):=aA (AL j);clear hc au ar;generalize rs[i]=x at *;go_wp2_with fail
     refine(a5.o _).mono ?_;rintro _ w2 ⟨rfl,aw,ba⟩;have bb:=aA aw;clear aw ba k0 k1 k2 a4;go_wp2;go_roundw
     case rel=>exact⟨br s1 x,_,i+1,j,by go_num,bb,a6,aA (ah.o.trans av.o),aA (by rw[ab.o];exact Gm.yA ah.o av.o),aA (by rw[a9.o,Dj,<-ai.o];rfl)⟩
     case measure=>simp[intOf];omega
    ·obtain rfl:i=rs.length:=by omega
     rw[Bn]at ai;go_wp2;go_roundw
     case rel=>exact⟨s1,b1,d,aa,aA fun e x hx=>by
      have e1:s1=s:=by
       have:=ab.o
       rw[e]at this;exact BW fun h=>by rw[AQ h]at this;cases this
      have h2:=ai.o;rw[e1]at h2 ⊢;exact Gm.nH ap.o rs s h2.symm x hx⟩
     case measure =>
      have q1:=HG.o.u.wh;have q2:=d.o.u.wh;have q3:=MN HG.o.p;have q4:=MN d.o.p;rw[q1,q2,q3,q4];cases b1
      ·have e1:s1=s:=by
        have:=ab.o
        exact BW fun h=>by rw[AQ h]at this;cases this
       rw[e1];simp
      ·have e1:s1≠s:=Cy ab.o.symm
       have:=Gm.ui ah.o (ay.o s1 aa.o) (fun e=>e1 e.symm)
       simp;omega
def xZ (g h:Nat) (w:World):Type:={x:World // x.heap[g]?=w.heap[g]?/\x.heap[h]?=w.heap[h]?}
instance (g h:Nat) (w:World):Nonempty (xZ g h w):=⟨⟨w,rfl,rfl⟩⟩
structure EY (nt nn:Nat) (x:Gm.Rl):Prop where
 i:∀z∈x.r,Gm.In z
 t:∀z∈x.r,z<=31
 n:∀z∈x.r,z<0->-1-z<(nn:Int)
 l0:0<=x.l
 l1:x.l<(nn:Int)
 c:x.r.length<=6
theorem Jb (hf:Gm.Fit G) (b:Gm.Ok G) {x:Gm.Rl} (hx:x∈G.rs):EY G.ts.length G.ns.length x:=by
 have h1:=Gm.fJ (b.rr x hx);have h2:=(Gm.fZ G.ts).1 b.t;exact⟨(hf.r x hx).2.2,fun z hz=>by have:=(h1.2.2.2 z hz).1;omega,fun z hz h=>b.sin x hx z hz h,(b.iT x hx).1,(b.iT x hx).2,h1.1⟩
theorem NK (w y:World) (gk n ck kp nt:Nat) (s:List Nat) (b:Bool) (nu:List Bool) (A1 A':Option Addr) (c1 c' B:Nat) (x:Gm.Rl) (h:kQ w y gk n ck s b) (ag:y.heap[kp]?=some (.cells #[.slice A1 n c1,.slice (some ⟨gk,0,none⟩) n ck] 185 (0,0))) (h1:jl y y.heap.size A1 nu) (ac:nu.length=n) (ah:kp≠gk) (ai:kp<w.heap.size) (hr:gd y B A' x.r) (hB:B<=y.heap.size) (hU:Gm.lG s) (hx:EY nt n x) :
  Calls prog 153 #[.agg #[.int .i64 x.l,.slice A' x.r.length c',.int .i64 x.p],.func (Fn.func 177) #[] #[.pointer (some ⟨w.heap.size+1,0,none⟩),.pointer (some ⟨w.heap.size,0,none⟩)],.pointer (some ⟨kp,0,none⟩)] y fun e w'=>e=.returned (.tuple #[])/\kQ w w' gk n ck (Gm.fV nu s x) (b||decide (Gm.fV nu s x≠s))/\y.heap.size<=w'.heap.size:=by
 obtain⟨y1,g⟩:∃z,z=y.alloc (.cells #[.int .i64 x.l,.slice A' x.r.length c',.int .i64 x.p] 48):=⟨_,rfl⟩
 have j:Below y.heap.size y y1:=by rw[g];exact(AB _ y).alloc (Af _) _
 have aj:y1.heap.size=y.heap.size+1:=by rw[g];simp
 have q:y1.heap[y.heap.size]?=some (.cells #[.int .i64 x.l,.slice A' x.r.length c',.int .i64 x.p] 48 (0,0)):=by rw[g];exact AG y _
 have aa:=aC j ag;have A:=h.below j;have hl:s.length=n:=h.l;obtain⟨l,r,p⟩:=x;obtain⟨m,rfl⟩:∃m:Nat,l=(m:Int):=⟨l.toNat,by have:=hx.l0;simp only at this;omega⟩
 simp only at hr q ⊢;have ak:m<n:=by have:=hx.l1;simp only at this;omega
 have HE:Hid (Gm.fV nu s ⟨(m:Int),r,p⟩=Gm.iX s m (Gm.iN nu s 0 r)):=aA (by unfold Gm.fV;simp);rw[HE.o];have hv:Gm.iN nu s 0 r<4294967296:=Gm.lG.iN hU (by decide) hx.t;have al:=aA (fun(z:World) (hz:Below y1.heap.size y1 z)=>Lx r 0 nu s A' A1 (some ⟨gk,0,none⟩) c' c1 ck B y.heap.size (gk+1) z ((hr.below j hB).below hz (by omega)) ((h1.below j (Af _)).below hz (by omega)) ((A.u.below hz A.u.lt).rd (by omega)) (by have:=hz.size;omega) (by have:=hz.size;omega) (by have:=hz.size;have:=A.u.lt;omega) hx.i hx.t (fun z hz h=>by rw[hl];exact hx.n z hz h) (by rw[ac,hl]) hU (by decide) (by have:=hx.c;simp only at this;omega));rw[ac,hl]at al;have av:=aA (fun(z:World) (hz:Below y1.heap.size y1 z)=>PI w z gk n ck s b m (Gm.iN nu s 0 r) ak hv hU (A.below hz));generalize Gm.iN nu s 0 r=v at *;have C:=aA aj;have am:=aA (BD ah ai);have HG:=aA (BD h.k h.hs);have q0:=fun z:xZ y.heap.size kp y1=>AF z.1 _ 0 _ _ _ (z.2.1.trans q);have q1:=fun z:xZ y.heap.size kp y1=>AF z.1 _ 1 _ _ _ (z.2.1.trans q);have q3:=fun z:xZ y.heap.size kp y1=>AF z.1 _ 0 _ _ _ (z.2.2.trans aa);have q4:=fun z:xZ y.heap.size kp y1=>AF z.1 _ 1 _ _ _ (z.2.2.trans aa);have ay:=aA q;have ao:=aA aa;clear hr h1 hx hU hv ak hl j A h ag hB ac aj HE q aa ah ai
 go_enter func153,ntmps153
 go_upto_region 1 with fail
 rw[<-g];clear g;refine CalmN.fk (fun x=>∃z:xZ y.heap.size kp y1,x=z.1) (.one [0,1,2,3,4,5] 6 (.one [] 7 (.fin []))) (by kernel_rfl) (by kernel_rfl) (fun _ _ d _ _ h=>by cases d <;> exact h) ⟨⟨y1.drew,rfl,rfl⟩,rfl⟩ ?_;simp only[CalmN.fN,CalmN.fv,CalmN.fo,Az,Am,Ap];repeat (go_big_quiet_step (fail))
 refine Aw ?_;have ab:Hid (Below y1.heap.size y1 y1.drew):=aA (aB (AB _ _) 1);obtain⟨yd,ap⟩:∃z,z=y1.drew:=⟨_,rfl⟩
 rw[<-ap]at ab ⊢;clear ap q0 q1 q3 q4;intro KK D;rw[AC (by rfl)];go_wp2_with fail
 refine(al.o _ ab.o).mono ?_;rintro _ w3 ⟨rfl,aq⟩;have f:=aA (ab.o.trans (aq.mono ab.o.size));clear aq;go_wp2_with fail
 have ad:∃z:xZ y.heap.size kp y1,w3=z.1:=⟨⟨w3,f.o.block _ (by have:=C.o;omega),f.o.block _ (Ad.1 ao.o).1⟩,rfl⟩
 refine D _ _ ad _ (fun _ h=>h) ad ?_;clear D ad;refine Aw ?_;intro KK D;rw[AC (by rfl)];go_wp2_with fail
 refine(av.o _ f.o).mono ?_;rintro _ w4 ⟨rfl,ar,au,ae⟩;have aw:=aA ar;have ax:Hid (y.heap.size<=w4.heap.size):=aA (by rw[au];have:=f.o.size;have:=C.o;omega);have af:∃z:xZ y.heap.size kp y1,w4=z.1:=⟨⟨w4,(ae _ (by have:=HG.o;have:=C.o;omega) (by have:=HG.o;have:=C.o;omega)).trans (f.o.block _ (by have:=C.o;omega)),(ae _ am.o.1 (by have:=am.o;omega)).trans (f.o.block _ (Ad.1 ao.o).1)⟩,rfl⟩
 clear ar au ae;go_wp2_with fail
 refine D _ _ af _ (fun _ h=>h) af ?_;clear D af;refine Aw ?_;go_wp2;go_end0
 exact⟨rfl,aw.o,ax.o⟩
theorem I1 {o:Oper} {a:Act} {K:Act->World->Prop} {Q:Exit->Act->World->Prop} (l c:Operand) (t:TypeId) (ac:o.op=Op.makeSlice t l c) (ht:prog.underlying t=some (.slice 44)) (n:Nat) (hl:a.eval l=.int .i64 n) (hc:a.eval c=.int .i64 n) (hn:n<=35184372088832) (hK:∀w',gK w' w.heap.size (List.replicate n 0)->Below w.heap.size w w'->K (a.put o.dst (.slice (some ⟨w.heap.size,0,none⟩) n n)) w'):Oper.wp prog o a w K Q:=by
 obtain⟨i,hi,ad,ae,af⟩:=Cs Mm;obtain⟨w',ab,aa,b⟩:=run_make_full (P:=prog) w w.heap.size t 44 i (.int .u32 0) 1 ht hi ad ae .i64 .i64 n (by rw[af];omega) (by unfold maxLen;omega) (Af _)
 have hu:gK w' w.heap.size (List.replicate n 0):=by
  unfold gK;rw[Mb];refine Js (base:=w.heap.size) (n:=n) ?_;rw[Jy]
  have e:(madeCells (Value.int IntKind.u32 0).cells (n*1)).toList=List.replicate n (Value.int .u32 0):=by
   rw[DG];exact DU _ _
  rw[e]at aa;exact aa
 unfold Oper.wp;simp[execOp,ac,hl,hc,ab,Result.andThen];exact hK w' hu ⟨b.os,b.tape,b.output,b.size,fun k hk=>b.block k hk (by simp)⟩
structure JK (w2:World) (n:Nat) (row:List Bool) (todo:List Nat) (wx:World) (x3 x5 x9 x10:Value) (g1 g5 c7:Nat):Prop where
 t:∀k∈todo,k=1\/k=5\/k=6\/k=7
 b:Below w2.heap.size w2 wx
 h1:1 ∉ todo->x5=.slice (some ⟨g1,0,none⟩) n n/\w2.heap.size<=g1/\fL wx g1 row
 h5:5 ∉ todo->x9=.slice (some ⟨g5,0,none⟩) n n/\w2.heap.size<=g5/\gK wx g5 (List.replicate n 0)
 h6:6 ∉ todo->1 ∉ todo/\5 ∉ todo/\x10=.agg #[.slice (some ⟨g1,0,none⟩) n n,.slice (some ⟨g5,0,none⟩) n n]
 h7:7 ∉ todo->x3=.pointer (some ⟨c7,0,none⟩)/\w2.heap.size<=c7/\wx.heap[c7]?=some (.cells #[.slice none 0 0,.slice none 0 0] 185 (0,0))
section
variable {w2 wx w':World} {n:Nat} {row:List Bool} {todo:List Nat} {x3 x5 x9 x10:Value} {g1 g5 c7:Nat}
theorem JK.Hi (h:JK w2 n row todo wx x3 x5 x9 x10 g1 g5 c7) (hm:1∈todo) (hb:Below wx.heap.size wx w') (hg:wx.heap.size<=g) (hu:fL w' g row):JK w2 n row (todo.erase 1) w' x3 (.slice (some ⟨g,0,none⟩) n n) x9 x10 g g5 c7 where
 t k hk:=h.t k (Bq hk)
 b:=h.b.trans (hb.mono h.b.size)
 h1 _:=⟨rfl,Aj h.b.size hg,hu⟩
 h5 q:=by obtain⟨a1,a2,a3⟩:=h.h5 (aD q (by decide));exact⟨a1,a2,aC hb a3⟩
 h6 q:=absurd hm (h.h6 (aD q (by decide))).1
 h7 q:=by obtain⟨a1,a2,a3⟩:=h.h7 (aD q (by decide));exact⟨a1,a2,aC hb a3⟩
theorem JK.uJ (h:JK w2 n row todo wx x3 x5 x9 x10 g1 g5 c7) (hm:5∈todo) (hb:Below wx.heap.size wx w') (hu:gK w' wx.heap.size (List.replicate n 0)):JK w2 n row (todo.erase 5) w' x3 x5 (.slice (some ⟨wx.heap.size,0,none⟩) n n) x10 g1 wx.heap.size c7 where
 t k hk:=h.t k (Bq hk)
 b:=h.b.trans (hb.mono h.b.size)
 h1 q:=by obtain⟨a1,a2,a3⟩:=h.h1 (aD q (by decide));exact⟨a1,a2,aC hb a3⟩
 h5 _:=⟨rfl,h.b.size,hu⟩
 h6 q:=absurd hm (h.h6 (aD q (by decide))).2.1
 h7 q:=by obtain⟨a1,a2,a3⟩:=h.h7 (aD q (by decide));exact⟨a1,a2,aC hb a3⟩
theorem JK.uL (h:JK w2 n row todo wx x3 x5 x9 x10 g1 g5 c7):JK w2 n row (todo.erase 7) (wx.alloc (.cells #[.slice none 0 0,.slice none 0 0] 185)) (.pointer (some ⟨wx.heap.size,0,none⟩)) x5 x9 x10 g1 g5 wx.heap.size where
 t k hk:=h.t k (Bq hk)
 b:=h.b.alloc h.b.size _
 h1 q:=by obtain⟨a1,a2,a3⟩:=h.h1 (aD q (by decide));exact⟨a1,a2,aC ((AB _ wx).alloc (Af _) _) a3⟩
 h5 q:=by obtain⟨a1,a2,a3⟩:=h.h5 (aD q (by decide));exact⟨a1,a2,aC ((AB _ wx).alloc (Af _) _) a3⟩
 h6 q:=by obtain⟨a1,a2,a3⟩:=h.h6 (aD q (by decide));exact⟨fun m=>a1 (Bq m),fun m=>a2 (Bq m),a3⟩
 h7 _:=⟨rfl,h.b.size,AG wx _⟩
theorem JK.uK (h:JK w2 n row todo wx x3 x5 x9 x10 g1 g5 c7) (m1:1 ∉ todo) (m5:5 ∉ todo):JK w2 n row (todo.erase 6) wx x3 x5 x9 (.agg #[.slice (some ⟨g1,0,none⟩) n n,.slice (some ⟨g5,0,none⟩) n n]) g1 g5 c7 where
 t k hk:=h.t k (Bq hk)
 b:=h.b
 h1 q:=h.h1 m1
 h5 q:=h.h5 m5
 h6 q:=⟨fun m=>m1 (Bq m),fun m=>m5 (Bq m),rfl⟩
 h7 q:=h.h7 (aD q (by decide))
end
def Tw (G:Gm.Gr) (w:World) (e:Ending) (w':World):Prop:=∃g1 g5,e=.returned (.agg #[.slice (some ⟨g1,0,none⟩) G.ns.length G.ns.length,.slice (some ⟨g5,0,none⟩) G.ns.length G.ns.length])/\w.heap.size<=g1/\w.heap.size<=g5/\fL w' g1 (Gm.gn false G.rs G.ns.length)/\gK w' g5 (Gm.fst G)/\Below w.heap.size w w'
def oh (G:Gm.Gr) (s:List Nat):Prop:=s.length=G.ns.length/\Gm.lG s/\∀i t:Nat,(s.getD i 0).testBit t=true->Gm.Fs G t (i:Int)
theorem oh.start (G:Gm.Gr):oh G (List.replicate G.ns.length 0):=by
 refine⟨by simp,fun i=>?_,fun i t h=>?_⟩
 ·rw[Ag,Dc];split <;> simp
 ·rw[Gm.uD]at h;cases h
theorem oh.step (hf:Gm.Fit G) (aa:Gm.Ok G) {s:List Nat} {x:Gm.Rl} (hx:x∈G.rs) (h:oh G s):oh G (Gm.fV (Gm.gn false G.rs G.ns.length) s x) :=
 ⟨by unfold Gm.fV;rw[Gm.mA];exact h.1,h.2.1.iX _ (Gm.lG.iN h.2.1 (by decide) (Jb hf aa hx).t),fun i t hb=>Gm.ug aa.iT h.2.2 hx i t hb⟩
theorem NA (v:Value) (G:Gm.Gr) (B:Nat) (w:World) (hg:aT w B v G) (hf:Gm.Fit G) (af:Gm.Ok G) (hB:B<=w.heap.size) :
  Calls prog 115 #[v] w (Tw G w):=by
 have ag:=aA (fun(x:World) (h:Below w.heap.size w x)=>(show Calls _ _ _ _ (tK _ _) from(Ni v G B x (hg.below h hB) hf (Aj hB h.size)).mono fun e w' k=>k.1 (Gm.ft.2 af)));obtain⟨AT,cT,AN,cN,AR,cR,rfl,_,⟨ba,bb⟩,_,_,_,hR⟩:=hg;have u:=aA ((One.start w #[.slice AT G.ts.length cT,.slice AN G.ns.length cN,.slice AR G.rs.length cR,.int .i64 G.st]).alloc (.cells #[.slice none 0 0,.slice none 0 0] 185));have az:=aA hR;have HB:=aA hB;have am:=aA hf;have D:=aA af;have HN:Hid (G.ns.length<=40):=aA (by have:=(Gm.fG G).1 D.o.n;omega);have ah:Hid (G.rs.length<=40):=aA D.o.kz;have a0:=HN.o;have a1:(G.ns.length:Int)<=9223372036854775807:=by omega
 obtain⟨w2,E⟩:∃y,y=(w.alloc (.cells #[.slice AT G.ts.length cT,.slice AN G.ns.length cN,.slice AR G.rs.length cR,.int .i64 G.st] 26)).alloc (.cells #[.slice none 0 0,.slice none 0 0] 185):=⟨_,rfl⟩
 rw[<-E]at u;have a2:Hid (w2.heap[w.heap.size+1]?=some (.cells #[.slice none 0 0,.slice none 0 0] 185 (0,0))):=aA (by rw[E];have:=AG (w.alloc (.cells #[.slice AT G.ts.length cT,.slice AN G.ns.length cN,.slice AR G.rs.length cR,.int .i64 G.st] 26)) (.cells #[.slice none 0 0,.slice none 0 0] 185);simpa using this);have ao:w2.heap.size=w.heap.size+2:=by rw[E];simp
 have F:=aA ao;have ai:Hid (Below w.heap.size w w2):=aA u.o.below;have q:w.heap.size<w2.heap.size:=by omega
 obtain⟨T,hT⟩:∃x,x=Gm.gn false G.rs G.ns.length:=⟨_,rfl⟩
 have ap:Hid (T.length=G.ns.length):=aA (by rw[hT,Gm.gW]);rw[<-hT]at ag;have HT:=aA hT;have H3:=aA (fun(x:World) (h:Below w2.heap.size w2 x)=>ag.o x (ai.o.trans (h.mono (CQ q))));have q0:=fun y:Calm.On w2.heap.size w2=>(y.2.cell (p:=⟨w.heap.size,0,none⟩) q).trans (u.o.c 0 _ rfl);have q1:=fun y:Calm.On w2.heap.size w2=>(y.2.cell (p:=⟨w.heap.size,1,none⟩) q).trans (u.o.c 1 _ rfl);have q2:=fun y:Calm.On w2.heap.size w2=>(y.2.cell (p:=⟨w.heap.size,2,none⟩) q).trans (u.o.c 2 _ rfl);have q3:=fun y:Calm.On w2.heap.size w2=>(y.2.cell (p:=⟨w.heap.size,3,none⟩) q).trans (u.o.c 3 _ rfl);clear hf af hR hB hT ao ag
 go_enter func115,ntmps115
 go_upto_region 1 with fail
 rw[<-E];clear E
 refine CalmN.ng (fun x=>∃y:Calm.On w2.heap.size w2,x=y.1) [0,2,3,4] [1,5,6,7] [(6,1),(6,5)] (.one [] 8 (.fin []))
  (fun todo a wx=>∃x3 x5 x9 x10 g1 g5 c7,a = {tmps:=#[.agg #[.slice AT G.ts.length cT,.slice AN G.ns.length cN,.slice AR G.rs.length cR,.int .i64 G.st],.pointer (some ⟨w.heap.size,0,none⟩),.pointer (some ⟨w.heap.size+1,0,none⟩),x3,.agg #[.slice AT G.ts.length cT,.slice AN G.ns.length cN,.slice AR G.rs.length cR,.int .i64 G.st],x5,.pointer (some ⟨w.heap.size,1,none⟩),.slice AN G.ns.length cN,.int .i64 G.ns.length,x9,x10,undef,undef,undef,undef,undef,undef,undef],defers:=[]}/\JK w2 G.ns.length T todo wx x3 x5 x9 x10 g1 g5 c7)
  (by kernel_rfl) (by kernel_rfl) (fun _ _ d _ _ h=>by cases d <;> exact h) ⟨⟨w2.drew,aB (AB _ _) 1⟩,rfl⟩ ?_ ?_ ?_
 ·simp only[CalmN.fo,Az,Am,Ap];repeat (go_big_quiet_step (fail))
  refine Aw ?_;exact⟨undef,undef,undef,undef,0,0,0,rfl,⟨by simp,aB (AB _ _) 1,fun h=>absurd (by simp) h,fun h=>absurd (by simp) h,fun h=>absurd (by simp) h,fun h=>absurd (by simp) h⟩⟩
 ·intro todo k a wx hk hD hJ hS;obtain⟨x3,x5,x9,x10,g1,g5,c7,rfl,hJ⟩:=hJ;have HJ:=aA hJ;have ac:=hJ.t k hk;have HK:=aA hk;have HD:=aA hD;clear hJ hS hk hD q0 q1 q2 q3;rcases ac with rfl|rfl|rfl|rfl
  ·simp only[CalmN.fv,Az,Am,Ap];intro KK m;rw[AC (by rfl)];go_wp2_with fail
   refine(H3.o wx HJ.o.b).mono ?_;rintro _ w' ⟨g,rfl,hg,hu,hb⟩;have hj:=HJ.o.Hi HK.o hb hg hu;go_wp2_with fail
   rw[ap.o];exact m _ _ ⟨⟨w',hj.b⟩,rfl⟩ _ (fun _ h=>h) ⟨⟨w',hj.b⟩,rfl⟩ ⟨x3,_,x9,x10,_,g5,c7,rfl,hj⟩
  ·simp only[CalmN.fv,Az,Am,Ap];intro KK m;rw[AC (by rfl)];refine I1 (.tmp 8) (.tmp 8) _ rfl underlying41 G.ns.length rfl rfl (by omega) ?_;intro w' hu hb;have hj:=HJ.o.uJ HK.o hb hu;exact m _ _ ⟨⟨w',hj.b⟩,rfl⟩ _ (fun _ h=>h) ⟨⟨w',hj.b⟩,rfl⟩ ⟨x3,x5,_,x10,g1,_,c7,rfl,hj⟩
  ·have m1:=HD.o (6,1) (by simp) rfl;have m5:=HD.o (6,5) (by simp) rfl;obtain⟨rfl,_⟩:=HJ.o.h1 m1;obtain⟨rfl,_⟩:=HJ.o.h5 m5;have hj:=HJ.o.uK m1 m5;simp only[CalmN.fv,Az,Am,Ap];intro KK m;rw[AC (by rfl)];go_wp2_with fail
   exact m _ _ ⟨⟨_,hj.b⟩,rfl⟩ _ (fun _ h=>h) ⟨⟨_,hj.b⟩,rfl⟩ ⟨x3,_,_,_,g1,g5,c7,rfl,hj⟩
  ·simp only[CalmN.fv,Az,Am,Ap];intro KK m;rw[AC (by rfl)];have hj:=HJ.o.uL;go_wp2_with fail
   exact m _ _ ⟨⟨_,hj.b⟩,rfl⟩ _ (fun _ h=>h) ⟨⟨_,hj.b⟩,rfl⟩ ⟨_,x5,x9,x10,g1,g5,_,rfl,hj⟩
 ·intro a wx hJ hS;obtain⟨x3,x5,x9,x10,g1,g5,c7,rfl,hJ⟩:=hJ;obtain⟨rfl,aq,i⟩:=hJ.h1 (by simp);obtain⟨rfl,aj,f⟩:=hJ.h5 (by simp);obtain⟨_,_,rfl⟩:=hJ.h6 (by simp);obtain⟨rfl,ak,j⟩:=hJ.h7 (by simp);have ar:=hJ.b;clear hS q0 q1 q2 q3 hJ H3;have l7:=(Ad.1 j).1;have f7:=AH wx _ 0 _ _ j;have f8:=AH wx _ 1 _ _ j;have k7:=AF wx _ 0 _ _ _ j;have k8:=AF wx _ 1 _ _ _ j;simp only[CalmN.fN,CalmN.fv,CalmN.fo,Az,Am,Ap];repeat (go_big_quiet_step (fail))
  refine Aw ?_;intro KK m;rw[AC (by rfl)];go_wp2_with fail
  obtain⟨wy,z⟩:∃y,y=(wx.setCell ⟨c7,0,none⟩ (.slice (some ⟨g1,0,none⟩) G.ns.length G.ns.length)).setCell ⟨c7,1,none⟩ (.slice (some ⟨g5,0,none⟩) G.ns.length G.ns.length):=⟨_,rfl⟩
  have r:Below w2.heap.size w2 wy:=by rw[z];exact(ar.setCell (p:=⟨c7,0,none⟩) ak _).setCell (p:=⟨c7,1,none⟩) ak _
  have ab:g1≠c7:=fun e=>by subst e;unfold fL at i;rw[j]at i;injection i with i;injection i with _ i;cases i
  have l:g5≠c7:=fun e=>by subst e;unfold gK iA at f;rw[j]at f;injection f with f;injection f with _ f;cases f
  have aa:g1≠g5:=fun e=>by subst e;unfold fL at i;unfold gK iA at f;rw[i]at f;injection f with f;injection f with _ f;cases f
  have H:fL wy g1 T:=by rw[z];exact fL.jr (fL.jr i ab _) ab _
  have au:gK wy g5 (List.replicate G.ns.length 0):=by rw[z];exact gK.jr (gK.jr f l _) l _
  have I:wy.heap[c7]?=some (.cells #[.slice (some ⟨g1,0,none⟩) G.ns.length G.ns.length,.slice (some ⟨g5,0,none⟩) G.ns.length G.ns.length] 185 (0,0)):=by rw[z];exact AZ _ c7 1 _ _ _ (AZ wx c7 0 _ _ _ j)
  rw[<-z];refine m _ _ ⟨⟨wy,r⟩,rfl⟩ _ (fun _ h=>h) ⟨⟨wy,r⟩,rfl⟩ ?_;clear m k7 k8 f7 f8 l7 z i f j ar;refine Aw ?_;have u1:=AF wy _ 1 _ _ _ I;have u2:=(r.cell (p:=⟨w.heap.size,2,none⟩) q).trans (u.o.c 2 _ rfl);have lw:w.heap.size<wy.heap.size:=Ah q r.size;have l7:=(Ad.1 I).1;have ad:Below w.heap.size w wy:=ai.o.trans (r.mono (CQ q));have av:qR wy B AR G.rs:=az.o.fp fun g o hg=>ad.cell (p:=⟨g,o,none⟩) (Ah hg HB.o)
  have aw:=Pb 153 #[.pointer (some ⟨c7,0,none⟩)] (zP func153 (by kernel_rfl) (by kernel_rfl)) G.rs AR cR G.ns.length B g5 G.ns.length wy (List.replicate G.ns.length 0) (oh G) (Gm.fV T)
   av (Aj HB.o ad.size) (by have:=HB.o;omega) au (by simp) (oh.start G) (by have:=ah.o;omega) (fun s x=>Gm.kF.iX _ _ _) (fun s x hx h=>by rw[HT.o];exact h.step am.o D.o hx) (fun s h=>h.2.1)
   (fun y s b x A' c' hG hP hx hr _=>by
    have a3:=(hG.g.block c7 l7 (fun e=>by injection e with e;exact l e.symm)).trans I;have h1:fL y g1 T:=(hG.g.block g1 H.lt (fun e=>by injection e with e;exact aa e)).trans H;exact NK wy y g5 G.ns.length G.ns.length c7 G.ts.length s b T (some ⟨g1,0,none⟩) A' G.ns.length c' B x hG a3 (h1.o4 h1.lt) ap.o (fun e=>l e.symm) l7 hr (Aj HB.o (Aj ad.size hG.g.size)) hP.2.1 (Jb am.o D.o hx))
  have ax:=aA aw
  have HX:Hid (∀(y:World) (s:List Nat),oh G s->(∀x∈G.rs,Gm.fV T s x=s)->gK y g5 s->wy.grownBy y (some g5)->gK y g5 (Gm.fst G)/\fL y g1 T/\y.heap[c7]?=some (.cells #[.slice (some ⟨g1,0,none⟩) G.ns.length G.ns.length,.slice (some ⟨g5,0,none⟩) G.ns.length G.ns.length] 185 (0,0))/\Below w2.heap.size w2 y):=aA (fun y s hP hc hu hg=>by
   rw[HT.o]at hc;rw[<-Gm.wE D.o.iT hP.1 hP.2.2 hc];exact⟨hu,(hg.block g1 H.lt (fun e=>by injection e with e;exact aa e)).trans H,(hg.block c7 l7 (fun e=>by injection e with e;exact l e.symm)).trans I,pF r hg aj r.size⟩)
  have A:=aA (BD aq aj);clear aw H au I av ad ab l aa aq aj ak r a0;go_wp2_with fail
  refine ax.o.mono ?_;rintro _ w4 ⟨rfl,s,hP,hc,hu,a4,ay⟩;obtain⟨f,i,j,al⟩:=HX.o w4 s hP hc hu ay;have r0:=AF w4 _ 0 _ _ _ j;have r1:=AF w4 _ 1 _ _ _ j;have l74:=(Ad.1 j).1;have C:=(al.block (w.heap.size+1) (by have:=F.o;omega)).trans a2.o;have g0:=AF w4 _ 0 _ _ _ C;have g1':=AF w4 _ 1 _ _ _ C;have f0:=AH w4 _ 0 _ _ C;have f1:=AH w4 _ 1 _ _ C;have l4:=(Ad.1 C).1;have a5:=aA f;have a6:=aA i;have a9:=aA al;clear hP hc hu a4 ay f i j al C HX ax u1 u2 lw l7;go_wp2_with fail
  refine B8 (v:=.agg #[.slice (some ⟨g1,0,none⟩) G.ns.length G.ns.length,.slice (some ⟨g5,0,none⟩) G.ns.length G.ns.length]) (by simp[results,results115,go_sem,g0,g1']) rfl ?_;have ae:∀g,w2.heap.size<=g->g≠w.heap.size+1:=fun g h=>by have:=F.o;omega
  refine⟨g1,g5,rfl,by have:=A.o;have:=F.o;omega,by have:=A.o;have:=F.o;omega,?_,?_,?_⟩
  ·rw[<-HT.o];exact fL.jr (fL.jr a6.o (ae _ A.o.1) _) (ae _ A.o.1) _
  ·exact gK.jr (gK.jr a5.o (ae _ A.o.2) _) (ae _ A.o.2) _
  ·exact((ai.o.trans (a9.o.mono (by have:=F.o;omega))).setCell (p:=⟨w.heap.size+1,0,none⟩) (by simp) _).setCell (p:=⟨w.heap.size+1,1,none⟩) (by simp) _
theorem QM {p:Int->Bool} (h:k<l.length):(l.take (k+1)).any p=((l.take k).any p||p l[k]):=by
 rw[AL h,List.any_append];simp
theorem To {p:Int->Bool} (h:k<l.length) (hp:p l[k]=true):l.any p=true:=EO.2 ⟨_,AE h,hp⟩
theorem Nn (fb:Nat) (cp:Value) (hE:∀args w,Sem.run prog (callFunc fb args) w=.ok (.enter fb args) w) (l:List Int) (p:Int->Bool) (A:Option Addr) (c B:Nat) (w:World) (hr:gd w B A l) (hB:B<=w.heap.size) (hl:l.length<=9223372036854775807) (hp:∀y z,Below w.heap.size w y->z∈l->Calls prog fb #[.int .i64 z,cp] y fun e w'=>e=.returned (.bool (p z))/\Below y.heap.size y w') :
  Calls prog 150 #[.slice A l.length c,.func (Fn.func fb) #[] #[cp]] w fun e w'=>(∃k:Int,e=.returned (.int .i64 k)/\decide (0<=k)=l.any p)/\Below w.heap.size w w':=by
 have HR:=aA hr;have HB:=aA hB;have HP:=aA hp;have ac:(l.length:Int)<=9223372036854775807:=by omega
 clear hr hp hB hl
 go_enter func150,ntmps150
 go_wp2;go_loopw [8] (fun vi wr=>∃k:Nat,k<=l.length/\vi=.int .i64 k/\Hid ((l.take k).any p=false)/\Hid (Below w.heap.size w wr)) (fun vi _=>l.length-(intOf vi).toNat)
 case atStart=>exact⟨0,AV _,rfl,aA (by simp),aA (AB _ _)⟩
 case round =>
  obtain⟨k,hk,rfl,HK,HW⟩:=hrel;by_cases b:k<l.length
  ·obtain⟨g,o,rfl,ad,hc⟩:=HR.o (by omega);have k0:=(HW.o.cell (p:=⟨g,o+k,none⟩) (Ah ad HB.o)).trans (hc k b);rw[L.fy b]at k0;have aa:=aA (HP.o wr _ HW.o (AE b));have HN:=aA (QM (p:=p) b);have HY:=aA (fun h=>To (p:=p) b h);clear hc;generalize l[k]=z at *;cases hz:p z
   ·rw[hz]at aa HN;have HX:=aA (HN.o.trans (by rw[HK.o]));clear hz HN HY;go_wp2_with fail
    refine aa.o.mono ?_;rintro _ w2 ⟨rfl,hb⟩;have ab:=aA (HW.o.trans (hb.mono HW.o.size));clear hb;go_wp2;go_roundw
    case rel=>exact⟨k+1,b,by go_num,HX,ab⟩
    case measure=>simp[intOf];omega
   ·rw[hz]at aa;have HX:=aA (HY.o hz);clear hz HN HY;go_wp2_with fail
    refine aa.o.mono ?_;rintro _ w2 ⟨rfl,hb⟩;have ab:=aA (HW.o.trans (hb.mono HW.o.size));clear hb;go_wp2;go_ret
    exact⟨⟨_,rfl,by rw[HX.o,AQ (by omega)]⟩,ab.o⟩
  ·obtain rfl:k=l.length:=by omega
   rw[Bn]at HK;go_wp2;go_ret
   exact⟨⟨_,rfl,by rw[HK.o];rfl⟩,HW.o⟩
theorem MU (fb:Nat) (cp:Value) (hE:∀args w,Sem.run prog (callFunc fb args) w=.ok (.enter fb args) w) (l:List Int) (p:Int->Bool) (A:Option Addr) (c B:Nat) (w:World) (hr:gd w B A l) (hB:B<=w.heap.size) (hl:l.length<=9223372036854775807) (hp:∀y z,Below w.heap.size w y->z∈l->Calls prog fb #[.int .i64 z,cp] y fun e w'=>e=.returned (.bool (p z))/\Below y.heap.size y w') :
  Calls prog 114 #[.slice A l.length c,.func (Fn.func fb) #[] #[cp]] w fun e w'=>e=.returned (.bool (l.any p))/\Below w.heap.size w w':=by
 have H:=aA (Nn fb cp hE l p A c B w hr hB hl hp);clear hr hB hl hp
 go_enter func114,ntmps114
 go_wp2_with fail
 refine H.o.mono ?_;rintro _ w2 ⟨⟨k,rfl,hk⟩,hb⟩;have HK:=aA hk;have HB:=aA hb;clear hk hb;go_wp2;go_ret
 exact⟨aE HK.o,HB.o⟩
noncomputable def Gm.nE (G:Gm.Gr) (l:List Int) (rest:Nat):Nat:=if Gm.right G=true/\l.all (Gm.has G)=true then Gm.iN (Gm.gn false G.rs G.ns.length) (Gm.fst G) rest l else 0
theorem Gm.oJ (aa:Gm.Ok G):Gm.lG (Gm.fst G):=fun i=>by
 have ab:=((Gm.fZ G.ts).1 aa.t).1;refine Ey (n:=32) _ fun t ht=>?_;cases hb:((Gm.fst G).getD i 0).testBit t
 ·rfl
 ·have:=Gm.xG aa ((Gm.kX aa.iT i t).1 hb)
  omega
theorem Gm.ri (aa:Gm.Ok G) (h:Gm.has G z=true):z<=31/\(z<0->-1-z<(G.ns.length:Int))/\z<G.ts.length:=by
 have ab:=((Gm.fZ G.ts).1 aa.t).1;unfold Gm.has at h;split at h
 ·have:=Cy h
  exact⟨by omega,fun h=>by omega,this⟩
 ·have:=Cy h
  exact⟨by omega,fun _=>this,by omega⟩
theorem Py (G:Gm.Gr) (B:Nat) (z:Int) (hz:Gm.In z) (a:Array Value) (w y:World) (hg:aT y B (.agg a) G) (ho:One w a y) :
  Calls prog 112 #[.int .i64 z,.pointer (some ⟨w.heap.size,0,none⟩)] y fun e w'=>e=.returned (.bool (!Gm.has G z))/\Below y.heap.size y w':=by
 have H:=aA (IN (.agg a) G B z hz y hg);obtain⟨AT,cT,AN,cN,AR,cR,hv,_⟩:=hg;injection hv with hv;subst hv;have q0:=ho.c 0 _ rfl;have q1:=ho.c 1 _ rfl;have q2:=ho.c 2 _ rfl;have q3:=ho.c 3 _ rfl;have hs:w.heap.size<y.heap.size:=ho.size;clear ho
 go_enter func112,ntmps112
 go_wp2_with fail
 refine H.o.mono ?_;rintro _ w2 ⟨rfl,hb⟩;have HB:=aA hb;clear hb;go_wp2;go_ret
 exact⟨rfl,HB.o⟩
theorem Ss (v:Value) (G:Gm.Gr) (l:List Int) (rest:Nat) (A:Option Addr) (c B:Nat) (w:World) (hg:aT w B v G) (hf:Gm.Fit G) (hB:B<=w.heap.size) (hr:gd w B A l) (g:∀z∈l,Gm.In z) (hl:l.length<=9223372036854775807) (aa:rest<4294967296) :
  Calls prog 76 #[v,.slice A l.length c,.int .u32 rest] w fun e w'=>e=.returned (.int .u32 (Gm.nE G l rest))/\Below w.heap.size w w':=by
 have H1:=aA (fun(x:World) (h:Below w.heap.size w x)=>FC v G B x (hg.below h hB) hf (Aj hB h.size));have H2:=aA (fun(q:Gm.right G=true) (x:World) (h:Below w.heap.size w x)=>NA v G B x (hg.below h hB) hf (Gm.ft.1 q) (Aj hB h.size));have ah:=aA (fun(x:World) (h:Below w.heap.size w x)=>hg.below h hB);have al:=aA hg;obtain⟨AT,cT,AN,cN,AR,cR,rfl,_⟩:=hg;have f:=aA (One.start w #[.slice AT G.ts.length cT,.slice AN G.ns.length cN,.slice AR G.rs.length cR,.int .i64 G.st])
 have H3:=aA (fun(x:World) (h:One w #[.slice AT G.ts.length cT,.slice AN G.ns.length cN,.slice AR G.rs.length cR,.int .i64 G.st] x)=>MU 112 (.pointer (some ⟨w.heap.size,0,none⟩)) (zP func112 (by kernel_rfl) (by kernel_rfl)) l (fun z=>!Gm.has G z) A c B x (hr.below h.below hB) (Aj hB h.below.size) hl
  (fun y z hy hz=>Py G B z (g z hz) _ w y (ah.o y (h.on hy).below) (h.on hy)))
 have ad:l.any (fun z=>!Gm.has G z) = !l.all (Gm.has G):=by rw[List.all_eq_not_any_not];simp
 rw[ad]at H3;have HE:Hid (Gm.nE G l rest=if Gm.right G=true/\l.all (Gm.has G)=true then Gm.iN (Gm.gn false G.rs G.ns.length) (Gm.fst G) rest l else 0):=aA rfl;generalize ai:Gm.nE G l rest=r0 at *;clear ai ad;cases q:Gm.right G
 ·rw[q]at H1;have HX:Hid (r0=0):=aA (by rw[HE.o,q];rfl);clear q H2 H3 hr hf g hl aa HE
  go_enter func76,ntmps76
  go_wp2_with fail
  refine(H1.o _ f.o.below).mono ?_;rintro _ w2 ⟨rfl,hb⟩;have d:=aA (f.o.on hb);clear hb;go_wp2;go_ret
  exact⟨by rw[HX.o];rfl,d.o.below⟩
 ·have H2:=aA (H2.o q);rw[q]at H1;cases ha:l.all (Gm.has G)
  ·rw[ha]at H3;have HX:Hid (r0=0):=aA (by rw[HE.o,ha];simp);clear q H2 hr hf g hl aa HE ha
   go_enter func76,ntmps76
   go_wp2_with fail
   refine(H1.o _ f.o.below).mono ?_;rintro _ w2 ⟨rfl,hb⟩;have d:=aA (f.o.on hb);clear hb;go_wp2_with fail
   refine(H3.o _ d.o).mono ?_;rintro _ w3 ⟨rfl,hb⟩;have b:=aA (d.o.on hb);clear hb;go_wp2;go_ret
   exact⟨by rw[HX.o];rfl,b.o.below⟩
  ·rw[ha]at H3;have ab:=Gm.ft.1 q;have HX:Hid (r0=Gm.iN (Gm.gn false G.rs G.ns.length) (Gm.fst G) rest l):=aA (by rw[HE.o,AC ⟨q,ha⟩]);have ac:=fun z hz=>Gm.ri ab (BP.1 ha z hz);have ae:=aA (fun(x:World) (h:Below w.heap.size w x) (g1 g5:Nat) (i:fL x g1 (Gm.gn false G.rs G.ns.length)) (j:gK x g5 (Gm.fst G))=>Lx l rest (Gm.gn false G.rs G.ns.length) (Gm.fst G) A (some ⟨g1,0,none⟩) (some ⟨g5,0,none⟩) c G.ns.length G.ns.length B x.heap.size x.heap.size x (hr.below h hB) (i.o4 i.lt) (j.rd j.lt) (Aj hB h.size) (Af _) (Af _) g (fun z hz=>(ac z hz).1) (fun z hz=>by rw[Gm.iR];exact(ac z hz).2.1) (by rw[Gm.iR,Gm.gW]) (Gm.oJ ab) aa hl);rw[Gm.iR,Gm.gW]at ae;clear q hr hf g hl aa HE ha ac ab;generalize Gm.iN (Gm.gn false G.rs G.ns.length) (Gm.fst G) rest l=vv at *
   go_enter func76,ntmps76
   go_wp2_with fail
   refine(H1.o _ f.o.below).mono ?_;rintro _ w2 ⟨rfl,hb⟩;have d:=aA (f.o.on hb);clear hb;go_wp2_with fail
   refine(H3.o _ d.o).mono ?_;rintro _ w3 ⟨rfl,hb⟩;have b:=aA (d.o.on hb);have q0:=b.o.c 0 _ rfl;have q1:=b.o.c 1 _ rfl;have q2:=b.o.c 2 _ rfl;have q3:=b.o.c 3 _ rfl;have am:w.heap.size<w3.heap.size:=b.o.size;clear hb;go_wp2_with fail
   refine(H2.o _ b.o.below).mono ?_;rintro _ w4 ⟨g1,g5,rfl,h1,h5,i,j,af⟩;have ag:=aA (b.o.on af);have aj:=aA (ae.o w4 ag.o.below g1 g5 i j);clear i j af h1 h5;go_wp2_with fail
   refine aj.o.mono ?_;rintro _ w5 ⟨rfl,hb⟩;have ak:=aA (ag.o.on hb);clear hb;go_wp2;go_ret
   exact⟨by rw[HX.o];rfl,ak.o.below⟩
namespace Gm
theorem oz (a n:Nat):(a &&& 2 ^ n≠0)↔a.testBit n=true:=by
 constructor
 ·intro h;cases hb:a.testBit n
  ·refine absurd (CW fun t=>?_) h;rw[DT,Cu,C4];by_cases e:n=t
   ·subst e;rw[hb];rfl
   ·rw[AM e,Bool.and_false]
  ·rfl
 ·intro h e
  have:=congrArg (fun z=>z.testBit n) e
  simp only[DT,Cu,C4,h]at this;simp at this
theorem oU {G:Gr} (l:List Int) {rest:Nat} (hr:rest<4294967296):nE G l rest<4294967296:=by
 unfold nE;split
 ·rename_i h
  have aa:=ft.1 h.1;exact lG.iN (oJ aa) hr fun z hz=>(ri aa (BP.1 h.2 z hz)).1
 ·decide
end Gm
theorem gd.fU {w:World} {B c:Nat} {A:Option Addr} {l:List Int} (h:gd w B A l) (hc:l.length<=c) (k:Nat):gd w B (fU A c k) (l.drop k):=by
 intro hn;rw[Bl]at hn;obtain⟨g,o,rfl,hg,aa⟩:=h (by omega);refine⟨g,o+k,?_,hg,fun j hj=>?_⟩
 ·have e:((⟨g,o,none⟩:Addr).add k)=⟨g,o+k,none⟩:=by unfold Addr.add;by_cases h0:k=0 <;> simp[h0]
  unfold Go.Proofs.YtcmhaemaophplaaGreat.fU;rw[AI (by omega),Dm,e]
 ·rw[Bl]at hj;rw[show o+k+j=o+(k+j) by omega,aa (k+j) (by omega),L.fy (by omega:k+j<l.length),L.fy (by rw[Bl];exact hj),Dt]
theorem Ju (w:World) (A:Option Addr) (c n k:Nat) (hk:k<=n):(Instr.sliceAt 38 (.slice A n c) (some (.int .i64 k)) none none).run prog w=.ok (.slice (fU A c k) (n-k) (c-k)) w:=by
 rw[DX _ _ _ _ _ _ (by kernel_rfl),run_slice_l _ _ _ _ _ (by kernel_rfl) .i64 (k:Int) (by omega) (by omega)];have hs:(sizeOf (prog.elem 38)).run prog w=.ok 1 w:=by kernel_rfl
 rw[hs];simp[Result.andThen,sliced,fU]
namespace Lk
open Gm
noncomputable def Jp (G:Gr) (r:List Int) (d:Nat):Nat×Bool:=(nE G (r.drop (d+1)) (2 ^ G.ts.length) &&& (4294967295-2 ^ G.ts.length),decide (nE G (r.drop (d+1)) (2 ^ G.ts.length) &&& 2 ^ G.ts.length≠0))
noncomputable def kA (G:Gr) (r:List Int) (d:Nat):Nat×Bool:=if r.getD d 0<0 then Jp G r d else(0,false)
noncomputable def fI (G:Gr) (r:List Int):List (Nat×Bool):=(List.range r.length).map (kA G r)
noncomputable def fK (G:Gr):List (List (Nat×Bool)):=G.rs.map fun x=>fI G x.r
theorem oc (G:Gr) (r:List Int):(fI G r).length=r.length:=by simp[fI]
theorem nZ (G:Gr):(fK G).length=G.rs.length:=by simp[fK]
theorem qu {G:Gr} (h:d<(fI G r).length):(fI G r)[d]=kA G r d:=by simp[fI]
theorem qq {G:Gr} (h:k<(fK G).length) (h2:k<G.rs.length):(fK G)[k]=fI G (G.rs[k]).r:=by simp[fK]
theorem xf (G:Gr) (r:List Int) (d:Nat):(kA G r d).1<4294967296:=by
 unfold kA;split
 ·exact Nat.lt_of_le_of_lt Nat.and_le_right (Nat.lt_of_le_of_lt (Nat.sub_le _ _) (by decide))
 ·decide
theorem RF {a t:Nat} (ha:a<4294967296) (hn:n<32):(a &&& (4294967295-2 ^ n)).testBit t=(a.testBit t&&decide (t≠n)):=by
 rw[DT];rcases Bx t 32 with ht|ht
 ·have h2:2 ^ n<2 ^ 32:=Nat.pow_lt_pow_right (by decide) hn
  have:=Nat.testBit_two_pow_sub_succ (x:=2 ^ n) (n:=32) h2 t
  rw[show 2 ^ 32-(2 ^ n+1)=4294967295-2 ^ n by omega]at this;rw[this,AQ ht,Ck,Cu];by_cases e:n=t
  ·subst e;simp
  ·have e2:¬t=n:=fun q=>e q.symm;simp[e,e2]
 ·have:a<2 ^ t:=Ah ha (by have:=BQ (n:=2) (by decide) ht;omega)
  rw[DN this];simp
theorem KN {G:Gr} (aa:Ok G) {x:Rl} (hx:x∈G.rs) (k rest:Nat):nE G (x.r.drop k) rest=iN (gn false G.rs G.ns.length) (fst G) rest (x.r.drop k):=by
 have ha:(x.r.drop k).all (has G)=true:=BP.2 fun z hz=>by
  have:=(fJ (aa.rr x hx)).2.2.2 z (CV hz)
  exact iS.2 ⟨this.1,this.2.1⟩
 unfold nE;rw[AC ⟨ft.2 aa,ha⟩]
theorem Fu {G:Gr} (b:Ok G) (ht:G.ts.length<=24) {x:Rl} (hx:x∈G.rs) (hd:d<x.r.length) (h0:x.r[d]<0) (v:Nat):FV (kA G x.r d) v=sB G v (x.r.drop (d+1)):=by
 have hg:x.r.getD d 0=x.r[d]:=by rw[Ag,AD hd];rfl
 have aa:∀z∈x.r.drop (d+1),z<G.ts.length:=fun z hz=>((fJ (b.rr x hx)).2.2.2 z (CV hz)).1;have hr:(2:Nat) ^ G.ts.length<4294967296:=by have:=BQ (n:=2) (by decide) ht;omega
 have hs:=oU (G:=G) (x.r.drop (d+1)) hr
 have hn:∀t:Nat,(nE G (x.r.drop (d+1)) (2 ^ G.ts.length)).testBit t=true↔Bg G t (x.r.drop (d+1))\/Nu G (x.r.drop (d+1))/\G.ts.length=t:=fun t=>by
  rw[KN b hx,ve b.iT,Cu,Bi]
 have ab:(nE G (x.r.drop (d+1)) (2 ^ G.ts.length) &&& 2 ^ G.ts.length≠0)↔Nu G (x.r.drop (d+1)):=by
  rw[oz,hn]
  constructor
  ·rintro(h|h)
   ·have:=GU b aa h;omega
   ·exact h.1
  ·exact fun h=>.inr ⟨h,rfl⟩
 have hb:∀t:Nat,(nE G (x.r.drop (d+1)) (2 ^ G.ts.length) &&& (4294967295-2 ^ G.ts.length)).testBit t=true↔Bg G t (x.r.drop (d+1)):=fun t=>by
  rw[RF hs (by omega),Bb,hn,Bi]
  constructor
  ·rintro⟨h|h,h2⟩
   ·exact h
   ·exact absurd h.2.symm h2
  ·intro h
   have:=GU b aa h
   exact⟨.inl h,by omega⟩
 unfold kA;rw[hg,AC h0];unfold FV Jp sB;simp only;refine CW fun t=>Bw.2 ?_;rw[ve b.iT];by_cases h:Nu G (x.r.drop (d+1))
 ·rw[AC (AQ (ab.2 h)),CM,Dd,hb];exact⟨fun k=>k.imp id fun k=>⟨h,k⟩,fun k=>k.imp id (·.2)⟩
 ·rw[AI (fun k=>h (ab.1 (Cy k))),hb];exact⟨.inl,fun k=>k.resolve_right fun k=>h k.1⟩
end Lk
theorem Lo {α:Type} (l:List α) (x y:α) (n:Nat) (h:0<n):(l++List.replicate n x).set l.length y=(l++[y])++List.replicate (n-1) x:=by
 obtain⟨m,rfl⟩:∃m,n=m+1:=⟨n-1,by omega⟩
 rw[DB _ _ (Af _),Dg,CR,CB,Ci];rfl
theorem QB {α:Type} (xs:List α) (z:α) (d:Nat) (h:d<xs.length):(xs.take d++List.replicate (xs.length-d) z).set d xs[d]=xs.take (d+1)++List.replicate (xs.length-(d+1)) z:=by
 have e:=Lo (xs.take d) z xs[d] (xs.length-d) (by omega);rw[Bd,Eh (by omega)]at e;rw[e,AL h,show xs.length-d-1=xs.length-(d+1) by omega]
def b8 (w:World) (At:Option Addr) (G:Gm.Gr):Prop:=∃g rs,At=some ⟨g,0,none⟩/\rs.map (·.1)=Lk.fK G/\iI 143 (je (α:=Nat×Bool)) w g rs/\∀r∈rs,bO 146 2 uX w 0 w.heap.size r
theorem b8.rd {At:Option Addr} (h:b8 w At G):lY 2 uX w w.heap.size At (Lk.fK G):=by
 obtain⟨g,rs,rfl,h1,h2,h3⟩:=h
 have:=iI.Jo h2 h2.lt h3
 rw[h1]at this;exact this
theorem b8.fp {w w':World} {At:Option Addr} {G:Gm.Gr} (h:b8 w At G) (hs:w.heap.size<=w'.heap.size) (hk:∀(g:Nat) (cur:Array Value) (T:TypeId),(T=143\/T=146)->w.heap[g]?=some (.cells cur T (0,0))->w'.heap[g]?=some (.cells cur T (0,0))):b8 w' At G:=by
 obtain⟨g,rs,h0,h1,h2,h3⟩:=h;exact⟨g,rs,h0,h1,hk _ _ _ (.inl rfl) h2,fun r hr=>((h3 r hr).fp fun g cur _ _ hc=>hk g cur _ (.inr rfl) hc).more hs⟩
theorem b8.below {At:Option Addr} (h:b8 w At G) (hb:Below w.heap.size w w'):b8 w' At G:=h.fp hb.size fun _ _ _ _ hc=>aC hb hc
theorem NI (v:Value) (G:Gm.Gr) (B:Nat) (w:World) (hg:aT w B v G) (hf:Gm.Fit G) (ar:Gm.Ok G) (hB:B<=w.heap.size) (ht:G.ts.length<=24) :
  Calls prog 48 #[v] w fun e w'=>∃A c,e=.returned (.slice A (Lk.fK G).length c)/\b8 w' A G/\Below w.heap.size w w':=by
 have hr:(2:Nat) ^ G.ts.length<4294967296:=by have:=BQ (n:=2) (by decide) ht;omega
 have bi:=aA (fun(y:World) (h:Below w.heap.size w y) (l:List Int) (A:Option Addr) (c:Nat) (hl:gd y B A l) (b1:∀z∈l,Gm.In z) (b2:l.length<=9223372036854775807)=>Ss v G l (2 ^ G.ts.length) A c B y (hg.below h hB) hf (Aj hB h.size) hl b1 b2 hr);have ae:=aA hr;have bj:=aA (show S.bit (G.ts.length:Int)=2 ^ G.ts.length from S.kT (by omega));generalize hP:(2:Nat) ^ G.ts.length=P at bi ae bj hr;have HP:=aA hP;clear hP;have au:=aA (fun(k:Nat) (hk:k<G.rs.length)=>Gm.fJ (ar.rr _ (AE hk)));have b3:=aA ar.kz;have b4:=aA (fun(k:Nat) (hk:k<G.rs.length)=>hf.r _ (AE hk));have HB:=aA hB;have af:=aA (Lk.nZ G);obtain⟨AT,cT,AN,cN,AR,cR,rfl,⟨cw,cx⟩,⟨cy,cz⟩,⟨cA,cB⟩,hT,hN,hR⟩:=hg;have HR:=aA hR;obtain⟨wb,ag⟩:∃y,y=w.alloc (.cells #[.slice AT G.ts.length cT,.slice AN G.ns.length cN,.slice AR G.rs.length cR,.int .i64 G.st] 26):=⟨_,rfl⟩
 have bk:Hid (Below w.heap.size w wb):=aA (by rw[ag];exact(AB _ _).alloc (Af _) _);have M:wb.heap[w.heap.size]?=some (.cells #[.slice AT G.ts.length cT,.slice AN G.ns.length cN,.slice AR G.rs.length cR,.int .i64 G.st] 26 (0,0)):=by rw[ag];exact AG w _
 have b5:=aA M;have av:=aA (Ad.1 M).1;have x0:=aS M;have x2:=aY M;have cC:(G.rs.length:Int)<=1000000:=by have:=b3.o;omega
 clear hR hT hN M hf ar hB ht hr
 go_enter func48,ntmps48
 go_upto_region 1 with fail
 rw[<-ag];clear ag;go_wp2_with fail
 refine(Iq _ _).mono ?_;rintro _ w1 ⟨rfl,b6⟩;subst b6;rw[bj.o];go_upto_region 3 with(at_make;refine II (m:=1) (f:=je (α:=Nat×Bool)) rfl (.tmp 16) (.tmp 16) _ rfl underlying105 _ 24 QW (by decide) (by decide) (by decide) (([],none,0):RW (Nat×Bool)) rfl G.rs.length rfl rfl (by omega) ?_;intro w2 ah ai)
 obtain⟨gT,aj⟩:∃g,g=w1.heap.size:=⟨_,rfl⟩
 rw[<-aj]at ah;rw[<-aj];have b7:Hid (iI 143 je w2 gT (([]:List (RW (Nat×Bool)))++List.replicate (G.rs.length-0) ([],none,0))):=aA ah;have b9:Hid (Below w.heap.size w w2):=aA (bk.o.trans (ai.mono bk.o.size));have bl:=aA (aC ai b5.o);have aw:Hid (w.heap.size<gT):=aA (by rw[aj];exact av.o);have ca:=aA ah.lt;have cb:Hid (([]:List (RW (Nat×Bool))).map (·.1)=(Lk.fK G).take 0):=aA (by simp);have cD:=aA ai.size;have x22:=aY bl.o;clear ah ai aj x0 x2;go_wp2;clear x22;go_loopw [21] (fun vi wr=>∃(i:Nat) (rs:List (RW (Nat×Bool))),i<=G.rs.length/\vi=.int .i64 i/\Hid (rs.map (·.1)=(Lk.fK G).take i)/\Hid (∀r∈rs,bO 146 2 uX wr (gT+1) wr.heap.size r)/\Hid (iI 143 je wr gT (rs++List.replicate (G.rs.length-i) ([],none,0)))/\Hid (wr.heap[w.heap.size]?=some (.cells #[.slice AT G.ts.length cT,.slice AN G.ns.length cN,.slice AR G.rs.length cR,.int .i64 G.st] 26 (0,0)))/\Hid (Below w.heap.size w wr)) (fun vi _=>G.rs.length-(intOf vi).toNat)
 case atStart=>exact⟨0,[],AV _,rfl,cb,aA (by simp),b7,bl,b9⟩
 case round =>
  obtain⟨i,rs,hi,rfl,ax,bm,HU,HX,HW⟩:=hrel;rename World=>wr;by_cases D:i<G.rs.length
  ·obtain⟨g,o,rfl,cc,hc⟩:=HR.o (by omega);obtain⟨k0,⟨A',c',k1,bo,_,bp⟩,k2⟩:=hc i D;have ay:g<w.heap.size:=Ah cc HB.o;have k0:=(HW.o.cell (p:=⟨g,o+i*3,none⟩) ay).trans k0;have k1:=(HW.o.cell (p:=⟨g,o+i*3+1,none⟩) ay).trans k1;have k2:=(HW.o.cell (p:=⟨g,o+i*3+2,none⟩) ay).trans k2;have bq:=aA bp;have cd:=aA bo;have br:=aA (au.o i D);have ce:=aA (b4.o i D)
   have cf:Hid ((Lk.fK G).take (i+1)=(Lk.fK G).take i++[Lk.fI G (G.rs[i]).r]):=aA (by
    rw[AL (by rw[af.o];exact D),Lk.qq _ D])
   have b:=aA (Lk.oc G (G.rs[i]).r);have cg:=aA (fun d (h:d<(Lk.fI G (G.rs[i]).r).length)=>Lk.qu (G:=G) (r:=(G.rs[i]).r) h)
   have ak:rs.length=i:=by
    have:=congrArg List.length ax.o
    rw[Bh,Bd,af.o]at this;omega
   obtain⟨wi,al⟩:∃y,y=wr.alloc (.cells #[.int .i64 (G.rs[i]).l,.slice A' (G.rs[i]).r.length c',.int .i64 (G.rs[i]).p] 48):=⟨_,rfl⟩
   have t:Hid (Below wr.heap.size wr wi):=aA (by rw[al];exact(AB _ _).alloc (Af _) _);have az:wi.heap[wr.heap.size]?=some (.cells #[.int .i64 (G.rs[i]).l,.slice A' (G.rs[i]).r.length c',.int .i64 (G.rs[i]).p] 48 (0,0)):=by rw[al];exact AG wr _
   have aa:=aA az;have y1:=aX az;have cE:(((G.rs[i]).r.length:Nat):Int)<=6:=by have:=br.o.1;omega
   have bs:Hid ((G.rs[i]).r.length<=6):=aA br.o.1;have bu:=aA D;have cF:((i:Nat):Int)<((G.rs.length:Nat):Int):=by omega
   have E:Hid (gT<wr.heap.size):=aA HU.o.lt;clear hc bp bo az;generalize (G.rs[i]).l=lf at *;generalize (G.rs[i]).r=r at *;generalize (G.rs[i]).p=rp at *;go_upto_region 6 with fail
   rw[<-al];clear al k0 k1 k2;go_upto_region 7 with(at_make;refine II (m:=2) (f:=uX) rfl (.tmp 30) (.tmp 30) _ rfl underlying143 _ 8 RO (by decide) (by decide) (by decide) ((0,false):Nat×Bool) rfl r.length rfl rfl (by omega) ?_;intro wm bv bw;have C:=aA (BD bv bw);clear bv bw;have N:=aA ((HU.o.below t.o E.o).below C.o.2 (Ah E.o t.o.size));have cm:=N.o.cell tD i 0 (by rw[AW,List.length_replicate,ak];omega) _ rfl;rw[DG,Dp]at cm;have fm:=N.o.frozen i;have lm:=N.o.lt)
   have O:Hid (Below wi.heap.size wi wm):=aA C.o.2;have C:=aA C.o.1;obtain⟨gr,am⟩:∃g,g=wi.heap.size:=⟨_,rfl⟩
   rw[<-am]at C;rw[<-am];have ao:Hid (gT≠gr):=aA (by have:=E.o;have:=t.o.size;omega)
   have ch:Hid (iI 146 uX (wm.setCell ⟨gT,i,none⟩ (.slice (some ⟨gr,0,none⟩) r.length r.length)) gr ((Lk.fI G r).take 0++List.replicate ((Lk.fI G r).length-0) (0,false))):=aA (by
    rw[EH,CS,Nat.sub_zero,b.o];exact C.o.jr (fun e=>ao.o e.symm) _)
   have bx:Hid (Below w.heap.size w (wm.setCell ⟨gT,i,none⟩ (.slice (some ⟨gr,0,none⟩) r.length r.length))):=aA (((HW.o.trans (t.o.mono HW.o.size)).trans (O.o.mono (Aj HW.o.size t.o.size))).setCell (CQ aw.o) _);have U:=aA (N.o.xa i (Lk.fI G r,some ⟨gr,0,none⟩,r.length) (some ⟨gr,0,none⟩) r.length r.length rfl b.o rfl);have a0:Hid ((wm.setCell ⟨gT,i,none⟩ (.slice (some ⟨gr,0,none⟩) r.length r.length)).heap[w.heap.size]?=some (.cells #[.slice AT G.ts.length cT,.slice AN G.ns.length cN,.slice (some ⟨g,o,none⟩) G.rs.length cR,.int .i64 G.st] 26 (0,0))):=aA ((AU _ _ _ _ (by have:=aw.o;simp only;omega)).trans (aC O.o (aC t.o HX.o)));have a1:Hid ((wm.setCell ⟨gT,i,none⟩ (.slice (some ⟨gr,0,none⟩) r.length r.length)).heap[wr.heap.size]?=some (.cells #[.int .i64 lf,.slice A' r.length c',.int .i64 rp] 48 (0,0))):=aA ((AU _ _ _ _ (by have:=E.o;simp only;omega)).trans (aC O.o aa.o))
   have a2:Hid ((rs++List.replicate (G.rs.length-i) ([],none,0)).set i (Lk.fI G r,some ⟨gr,0,none⟩,r.length)=(rs++[((Lk.fI G r,some ⟨gr,0,none⟩,r.length):RW (Nat×Bool))])++List.replicate (G.rs.length-(i+1)) ([],none,0)):=aA (by
    have:=Lo rs ([],none,0) ((Lk.fI G r,some ⟨gr,0,none⟩,r.length):RW (Nat×Bool)) (G.rs.length-i) (by have:=bu.o;omega)
    rw[ak]at this;rw[this,show G.rs.length-i-1=G.rs.length-(i+1) by omega])
   rw[a2.o]at U;have ci:Hid (∀x∈rs,bO 146 2 uX (wm.setCell ⟨gT,i,none⟩ (.slice (some ⟨gr,0,none⟩) r.length r.length)) (gT+1) wr.heap.size x):=aA (fun x hx=>(((bm.o x hx).below t.o (Af _)).below O.o t.o.size).fp (fun g1 cur h1 h2 h3=>(AU _ _ _ _ (by simp only;omega)).trans h3));have F:Hid (wr.heap.size<gr):=aA (by rw[am];exact(Ad.1 aa.o).1);generalize cj:wm.setCell ⟨gT,i,none⟩ (.slice (some ⟨gr,0,none⟩) r.length r.length)=wn at *;clear cm fm lm am cj C N O y1;have y1:=aX a1.o;go_wp2;clear y1;go_loopw [36] (fun vd wy=>∃d:Nat,d<=r.length/\vd=.int .i64 d/\Hid (iI 146 uX wy gr ((Lk.fI G r).take d++List.replicate ((Lk.fI G r).length-d) (0,false)))/\Hid (wn.grownBy wy (some gr))) (fun vd _=>r.length-(intOf vd).toNat)
   case atStart=>exact⟨0,AV _,rfl,ch,aA (AJ _ _)⟩
   case round =>
    obtain⟨d,hd,rfl,ap,HG⟩:=hrel;rename World=>wy;have H:=aA ((HG.o.block w.heap.size (Ad.1 a0.o).1 (fun e=>by injection e with e;have:=F.o;have:=aw.o;have:=E.o;omega)).trans a0.o);have a3:=aA ((HG.o.block wr.heap.size (Ad.1 a1.o).1 (fun e=>by injection e with e;have:=F.o;omega)).trans a1.o);have I:Hid (Below w.heap.size w wy):=aA (pF bx.o HG.o (by have:=F.o;have:=HW.o.size;omega) bx.o.size);by_cases u:d<r.length
    ·obtain⟨gq,oq,rfl,ck,cl⟩:=bq.o (by omega);have z0:=(I.o.cell (p:=⟨gq,oq+d,none⟩) (Ah ck HB.o)).trans (cl d u);rw[L.fy u]at z0;have a4:=aA (cg.o d (by rw[b.o];exact u));have cn:=aA (QB (Lk.fI G r) (0,false) d (by rw[b.o];exact u));have a5:=aA u
     have co:Hid ((Lk.fI G r).take d++List.replicate ((Lk.fI G r).length-d) (0,false)=(Lk.fI G r).take d++(0,false)::List.replicate ((Lk.fI G r).length-(d+1)) (0,false)):=aA (by
      rw[show(Lk.fI G r).length-d=((Lk.fI G r).length-(d+1))+1 by rw[b.o];omega,CR])
     have cG:((d:Nat):Int)<((r.length:Nat):Int):=by omega
     have ab:IntKind.i64.wrap (((d:Nat):Int)+1)=((d+1:Nat):Int):=by rw[B3 _ (by omega)];omega
     by_cases hz:r[d]<0
     ·have V:Hid (Lk.kA G r d=(Gm.nE G (r.drop (d+1)) (P) &&& (4294967295-P),decide (Gm.nE G (r.drop (d+1)) (P) &&& P≠0))):=aA (by
       rw[<-HP.o];unfold Lk.kA;exact AC (by rw[Ag,AD u,Bp];exact hz))
      obtain⟨j,hj⟩:∃j,d+1=j:=⟨_,rfl⟩
      rw[hj]at ab V;have SL:=fun w=>Ju w (some ⟨gq,oq,none⟩) c' r.length (j) (by omega);have cp:Hid (gd wy B (fU (some ⟨gq,oq,none⟩) c' (j)) (r.drop (j))):=aA ((bq.o.below I.o HB.o).fU cd.o (j));have cq:=aA (fun z (h:z∈r.drop (j))=>ce.o.2.2 z (CV h));have bz:Hid ((r.drop (j)).length=r.length-(j)):=aA Bl;have ac:=aA (fun(y:World) (h:Below wy.heap.size wy y)=>bi.o y (I.o.trans (h.mono I.o.size)) (r.drop (j)) (fU (some ⟨gq,oq,none⟩) c' (j)) (c'-(j)) (cp.o.below h (Aj HB.o I.o.size)) cq.o (by rw[bz.o];have:=bs.o;omega));rw[bz.o]at ac;have bD:=aA (Gm.oU (G:=G) (r.drop j) ae.o);have HJ:=aA hj;clear hj;generalize Gm.nE G (r.drop j) (P)=s at *;have aq:decide (r[d]<0)=true:=AQ hz;generalize r[d]=z at *;have y1:=aX a3.o;go_wp2_with fail
      refine(Gq _ _).mono ?_;rintro _ w5 ⟨rfl,a6⟩;subst a6;rw[aq];go_upto_region 11 with fail
      clear y1 z0 hz aq;have cH:Hid (w.heap.size<w5.heap.size/\wr.heap.size<w5.heap.size):=aA ⟨(Ad.1 H.o).1,(Ad.1 a3.o).1⟩;have q0:=fun y:Calm.On w5.heap.size w5=>aS (aC y.2 H.o);have q1:=fun y:Calm.On w5.heap.size w5=>aX (aC y.2 H.o);have q2:=fun y:Calm.On w5.heap.size w5=>aY (aC y.2 H.o);have q3:=fun y:Calm.On w5.heap.size w5=>bI (aC y.2 H.o);have q4:=fun y:Calm.On w5.heap.size w5=>aX (aC y.2 a3.o);have bM:=aW w5;refine CalmN.fk (fun x=>∃z:Calm.On w5.heap.size w5,x=z.1) (.one [0,1,2,3,4,5,6] 7 (.fin [8])) (by kernel_rfl) (by kernel_rfl) (fun _ _ d _ _ h=>by cases d <;> exact h) bM.o ?_;simp only[CalmN.fN,CalmN.fv,CalmN.fo,Az,Am,Ap];repeat (go_big_quiet_step (fail))
      refine Aw ?_;intro KK bT;rw[AC (by rfl)];go_wp2_with fail
      refine(ac.o w5.drew (aB (AB _ _) 1)).mono ?_;rintro _ wz ⟨rfl,J⟩;have J:Below w5.heap.size w5 wz:=(aB (AB _ w5) 1).trans J;have bX:=qP J;have q:=aA (ap.o.below J ap.o.lt);have b0:Hid (wn.grownBy wz (some gr)):=aA (qO HG.o (aK J _));have a9:Hid (wz.heap[gT]?=wn.heap[gT]?):=aA (b0.o.block gT U.o.lt (fun e=>by injection e with e;exact ao.o e));clear J q0 q1 q2 q3 q4 bM SL ab;go_wp2_with fail
      refine bT _ _ bX.o _ (fun _ h=>h) bX.o ?_;clear bT;repeat (go_big_quiet_step (fail))
      refine Aw ?_
      have cT2:wz.cell? ⟨gT,i,none⟩=some (.slice (some ⟨gr,0,none⟩) r.length r.length):=by
       have:=iI.cell (m:=1) (f:=je) (show iI 143 je wz gT (rs++[((Lk.fI G r,some ⟨gr,0,none⟩,r.length):RW (Nat×Bool))]++List.replicate (G.rs.length-(i+1)) ([],none,0)) from a9.o.trans U.o) tD i 0 (by rw[AW,AW,BA,ak];omega) (.slice (some ⟨gr,0,none⟩) r.length r.length) (by
        simp only[Ci,Ej];rw[Ct (by omega)];simp only[ak,Dg,List.getElem_cons_zero];unfold je;rw[b.o];rfl)
       rw[DG,Dp]at this;exact this
      have ba:d<((Lk.fI G r).take d++List.replicate ((Lk.fI G r).length-d) (0,false)).length:=by
       rw[AW,Bd,List.length_replicate,b.o];have:=a5.o;omega
      have bb:((Lk.fI G r).take d++List.replicate ((Lk.fI G r).length-d) ((0,false):Nat×Bool))[d]=(0,false):=by
       rw[Ct (by rw[Bd];omega),List.getElem_replicate]
      have c0:wz.cell? ⟨gr,d*2,none⟩=some (.int .u32 0):=q.o.cell Gw d 0 ba _ (by rw[bb];rfl);have c1:wz.cell? ⟨gr,d*2+1,none⟩=some (.bool false):=q.o.cell Gw d 1 ba _ (by rw[bb];rfl);have f0:=q.o.frozen (d*2);have f1:=q.o.frozen (d*2+1);have lz:=q.o.lt;have cI:=u32_andNot_nat s (P) bD.o ae.o;have cr:=u32_and_nat s (P) bD.o ae.o
      have cJ:(((s &&& P:Nat):Int) != 0)=decide (s &&& P≠0):=by
       rw[Bw,D4,Bi];omega
      have ad:=aA (q.o.Hp Gw d (Lk.kA G r d) (.int .u32 ((s &&& (4294967295-P):Nat):Int)) (.bool (decide (s &&& P≠0))) (by rw[V.o];rfl));rw[<-a4.o,cn.o]at ad;have cs:Hid (wn.grownBy ((wz.setCell ⟨gr,d*2,none⟩ (.int .u32 ((s &&& (4294967295-P):Nat):Int))).setCell ⟨gr,d*2+1,none⟩ (.bool (decide (s &&& P≠0)))) (some gr)):=aA (aF (aF b0.o _ _) _ _);clear ba bb V a4;generalize s &&& (4294967295-P)=bg at *;generalize s &&& P=an at *;generalize decide (an≠0)=nb at *;go_wp2;go_roundw
      case rel=>exact⟨d+1,a5.o,by go_num,ad,cs⟩
      case measure=>simp[intOf];omega
     ·have V:Hid (Lk.kA G r d=(0,false)):=aA (by
       unfold Lk.kA;exact AI (by rw[Ag,AD u,Bp];exact hz))
      have aq:decide (r[d]<0)=false:=AM hz
      have cu:Hid (iI 146 uX wy gr ((Lk.fI G r).take (d+1)++List.replicate ((Lk.fI G r).length-(d+1)) (0,false))):=aA (by
       have:=ap.o
       rw[co.o]at this;rw[AL (by rw[b.o];exact u),a4.o,V.o,Ci];exact this)
      generalize r[d]=z at *;go_wp2_with fail
      refine(Gq _ _).mono ?_;rintro _ w5 ⟨rfl,a6⟩;subst a6;rw[aq];go_wp2;go_roundw
      case rel=>exact⟨d+1,a5.o,by go_num,cu,HG⟩
      case measure=>simp[intOf];omega
    ·obtain rfl:d=r.length:=by omega
     have bc:Hid (iI 146 uX wy gr (Lk.fI G r)):=aA (by
      have:=ap.o
      rw[<-b.o,Bn,Dg,D7,CF]at this;exact this)
     have cv:=aA ((show w.heap.size<wn.heap.size from(Ad.1 a0.o).1));have bd:Hid (iI 143 je wy gT (rs++[((Lk.fI G r,some ⟨gr,0,none⟩,r.length):RW (Nat×Bool))]++List.replicate (G.rs.length-(i+1)) ([],none,0))):=aA ((HG.o.block gT U.o.lt (fun e=>by injection e with e;exact ao.o e)).trans U.o)
     have bf:Hid (∀x∈rs++[((Lk.fI G r,some ⟨gr,0,none⟩,r.length):RW (Nat×Bool))],bO 146 2 uX wy (gT+1) wy.heap.size x):=aA (fun x hx=>by
      rcases Bt.1 hx with hx|hx
      ·exact(((ci.o x hx).fp fun g1 cur h1 h2 h3=>(HG.o.block g1 (Ad.1 h3).1 (fun e=>by injection e with e;have:=F.o;omega)).trans h3)).more (by have:=F.o;have:=bc.o.lt;omega)
      ·rw[AP.1 hx];exact⟨by rw[b.o];exact Af _,by have:=bs.o;simp only;omega,bc.o.uS Gw (by have:=ao.o;have:=E.o;have:=F.o;omega) bc.o.lt⟩)
     have bh:Hid ((rs++[((Lk.fI G r,some ⟨gr,0,none⟩,r.length):RW (Nat×Bool))]).map (·.1)=(Lk.fK G).take (i+1)):=aA (by rw[Bf,ax.o,cf.o];rfl);go_wp2;go_roundw
     case rel=>exact⟨i+1,rs++[((Lk.fI G r,some ⟨gr,0,none⟩,r.length):RW (Nat×Bool))],bu.o,by go_num,bh,bf,bd,H,I⟩
     case measure=>simp[intOf];omega
  ·obtain rfl:i=G.rs.length:=by omega
   rw[Dg,D7,CF]at HU;have HE:Hid ((Lk.fK G).take G.rs.length=Lk.fK G):=aA (by rw[<-af.o,Bn]);go_wp2;go_ret
   refine⟨some ⟨gT,0,none⟩,G.rs.length,by rw[af.o];rfl,?_,HW.o⟩;exact⟨gT,rs,rfl,ax.o.trans HE.o,HU.o,fun r hr=>(bm.o r hr).less (AV _)⟩
theorem Mq {y:World} {T:Nat} {tl:List ((Int×Int)×Value)} (h:Mw.fx qL y T tl) (x:Int×Int) (hx:Gm.In x.1/\Gm.In x.2) (hj:Mw.fF tl x=some (.int .i64 j)) :
  (Instr.lookup 107 (.map (some T)) (.agg #[.int .i64 x.1,.int .i64 x.2]) false).run prog y=.ok (.int .i64 j) y:=by
 have:=Mw.gH (E:=qL) h Fx (t:=107) underlying107 (z:=.int .i64 0) (by kernel_rfl) (x:=x) hx false
 rw[hj]at this;exact this
structure G3 (G:Gm.Gr) (K:List (List Au.It)) (E:List (List (Int×Int))) (tl:List ((Int×Int)×Value)):Prop where
 hi:Au.Inv G K E
 hE:E.length=K.length
 xH:Gm.Ok G
 hp:∀x∈G.rs,Gm.Al true G.rs x.r
 ht:G.ts.length<=24
 hn:G.ns.length<=40
 hK:K.length<=300
 tw:∀i s j,Au.Ed E i s j->Mw.fF tl ((i:Int),s)=some (.int .i64 (j:Int))
abbrev yg (G:Gm.Gr) (w:World) (base R gc T M D:Nat) (AT AN AR At:Option Addr) (cT cN cR ct:Nat) (tl:List ((Int×Int)×Value)) (MM DD:Lk.MP) (st:List (Int×Int)):Prop :=
 iG w base R gc T M D (.slice AT G.ts.length cT) (.slice AN G.ns.length cN) (.slice AR G.rs.length cR) (.int .i64 G.st) (.slice At (Lk.fK G).length ct) tl MM DD st
theorem b8.uu {R gc T:Nat} {g0 g1 g2 g3 tv:Value} {tl:List ((Int×Int)×Value)} {MM DD:Lk.MP} {st:List (Int×Int)} {At:Option Addr} (h:b8 w At G) (k:fE gc M D w w') (hs:iG w base R gc T M D g0 g1 g2 g3 tv tl MM DD st):b8 w' At G:=by
 obtain⟨v,h1,h2⟩:=hs.v;refine h.fp k.size fun g cur ty ab hc=>?_;have aa:ty≠147/\ty≠112:=by rcases ab with rfl|rfl <;> exact⟨by decide,by decide⟩
 refine k.row hc (fun e=>?_) (fun e=>?_) (fun e=>?_) (fun e=>?_)
 ·rw[e,h1]at hc;injection hc with hc;injection hc with _ hc _;exact aa.1 hc.symm
 ·rw[e]at hc;exact hs.m.is.fB hc
 ·rw[e]at hc;exact hs.d.is.fB hc
 ·rw[zL (show w.cell? ⟨gc,0,none⟩=some v from AF w gc 0 _ _ _ h1)]at e;rcases aR h2 hc (fun cur e=>by injection e with _ e _;exact aa.2 e) with q|q
  ·rw[q]at e;cases e
  ·exact q e
def Tv (G:Gm.Gr) (K:List (List Au.It)) (E:List (List (Int×Int))) (base R gc T M D:Nat) (g0 g1 g2 g3 tv:Value) (tl:List ((Int×Int)×Value)) (MM DD:Lk.MP) (st:List (Int×Int)) (w w':World):Prop :=
 ∃MM' DD' st',iG w' base R gc T M D g0 g1 g2 g3 tv tl MM' DD' st'/\Lk.WI G K E MM' DD' st'/\Lk.On MM DD st MM' DD' st'/\Below base w w'/\fE gc M D w w'
theorem PB (G:Gm.Gr) (K:List (List Au.It)) (E:List (List (Int×Int))) (w:World) (base B R gc T M D:Nat) (AT AN AR At:Option Addr) (cT cN cR ct:Nat) (tl:List ((Int×Int)×Value)) (MM DD:Lk.MP) (st:List (Int×Int)) (q:Nat) (s:Int) (hG:G3 G K E tl) (hg:aT w B (.agg #[.slice AT G.ts.length cT,.slice AN G.ns.length cN,.slice AR G.rs.length cR,.int .i64 G.st]) G) (hB:B<=base) (co:b8 w At G) (h:iG w base R gc T M D (.slice AT G.ts.length cT) (.slice AN G.ns.length cN) (.slice AR G.rs.length cR) (.int .i64 G.st) (.slice At (Lk.fK G).length ct) tl MM DD st) (hw:Lk.WP G K E q s (Lk.gN MM ((q:Int),s)) MM DD st) (hs:-1-s<G.ns.length) (hc:st.length<=Lk.jo MM) :
  Calls prog 79 #[.agg (qN (.slice AT G.ts.length cT) (.slice AN G.ns.length cN) (.slice AR G.rs.length cR) (.int .i64 G.st) (.slice At (Lk.fK G).length ct) T M D),lI ((q:Int),s),.func (Fn.func 77) #[] #[.pointer (some ⟨R,0,none⟩),.pointer (some ⟨gc,0,none⟩)]] w fun e w'=>e=.returned (.tuple #[]) /\
   Tv G K E base R gc T M D (.slice AT G.ts.length cT) (.slice AN G.ns.length cN) (.slice AR G.rs.length cR) (.int .i64 G.st) (.slice At (Lk.fK G).length ct) tl MM DD st w w':=by
 have cU:=hG.xH.kz;have X:Gm.In s:=by have:=hw.s1;have:=hG.hn;unfold Gm.In;omega
 have bs:Gm.In (q:Int):=by have:=hw.q1;have:=hG.hK;unfold Gm.In;omega
 have HN:=aA (fun w=>Ku s X.1 X.2 w);obtain⟨_,_,_,_,_,_,e0,⟨dE,dF⟩,⟨dG,dH⟩,⟨dI,dJ⟩,_,_,hR⟩:=hg;injection e0 with e0;simp only[Array.mk.injEq,List.cons.injEq,Value.slice.injEq,true_and,and_true]at e0;obtain⟨⟨e1,e2⟩,⟨e3,e4⟩,e5,e6⟩:=e0;subst e1 e2 e3 e4 e5 e6;have HR:=aA hR;have HB:=aA hB;have I:=aA (Lk.nZ G);obtain⟨wb,Z⟩:∃y,y=(w.alloc (.cells (qN (.slice AT G.ts.length cT) (.slice AN G.ns.length cN) (.slice AR G.rs.length cR) (.int .i64 G.st) (.slice At (Lk.fK G).length ct) T M D) 110)).alloc (.cells #[.int .i64 (q:Int),.int .i64 s] 112):=⟨_,rfl⟩
 have cp:Hid (bQ 110 112 w (qN (.slice AT G.ts.length cT) (.slice AN G.ns.length cN) (.slice AR G.rs.length cR) (.int .i64 G.st) (.slice At (Lk.fK G).length ct) T M D) #[.int .i64 (q:Int),.int .i64 s] wb):=aA (by rw[Z];exact bQ.start _ _ _ _ _);have ap:=aA cp.o.below;have HZ:=aA cp.o.size;have HH:=aA (h.below ap.o);have J:=aA h.fC;have cV:=aA (co.below ap.o);have cW:Hid (fE gc M D w wb):=aA (.below ap.o h.nI);have f:=aA (BD h.m.lt (BD h.d.lt (BD h.nI h.t.lt)))
 have aq:Hid (wb.heap[w.heap.size]?=some (.cells (qN (.slice AT G.ts.length cT) (.slice AN G.ns.length cN) (.slice AR G.rs.length cR) (.int .i64 G.st) (.slice At (Lk.fK G).length ct) T M D) 110 (0,0))):=aA (by
  rw[Z,Bs _ _ _ (by simp)];exact AG w _)
 have bf:Hid (wb.heap[w.heap.size+1]?=some (.cells #[.int .i64 (q:Int),.int .i64 s] 112 (0,0))):=aA (by
  have:=AG (w.alloc (.cells (qN (.slice AT G.ts.length cT) (.slice AN G.ns.length cN) (.slice AR G.rs.length cR) (.int .i64 G.st) (.slice At (Lk.fK G).length ct) T M D) 110)) (.cells #[.int .i64 (q:Int),.int .i64 s] 112)
  rw[Z]
  simpa using this)
 have ar:Hid (∀k,bY wb gc=some k->k<w.heap.size):=aA (fun k hk=>h.own k (by
  unfold bY at hk ⊢
  rwa [ap.o.cell (p:=⟨gc,0,none⟩) h.nI]at hk))
 have lk0:=I8 HH.o.m.is ((q:Int),s) ⟨bs,X⟩;have x6:=xw aq.o;have x2:=aY aq.o;have y0:=aS bf.o;have y1:=aX bf.o;have HGG:=aA hG;have cq:=aA hw;have HC:=aA hc;have dK:=aA X;have dL:=aA bs;have dM:(G.rs.length:Int)<=40:=by omega
 obtain⟨v,hv⟩:∃v,v=Lk.gN MM ((q:Int),s):=⟨_,rfl⟩
 rw[<-hv]at cq lk0;clear hG hB co h hw hc hR X bs hv hs
 go_enter func79,ntmps79
 go_upto_region 1 with fail
 rw[<-Z];clear Z;go_wp2;have cX:Hid (Below base w wb):=aA (ap.o.mono J.o);have cY:Hid (Lk.pw G E MM DD q s v 0):=aA (Lk.pw.zero _ _ _ _ _);clear lk0 x6 x2 y0 y1;go_loopw [20] (fun vi wr=>∃(k:Nat) (M1 D1:Lk.MP) (s1:List (Int×Int)),k<=G.rs.length/\vi=.int .i64 k/\Hid (yg G wr base R gc T M D AT AN AR At cT cN cR ct tl M1 D1 s1)/\Hid (Lk.WP G K E q s v M1 D1 s1)/\Hid (Lk.pw G E M1 D1 q s v k)/\Hid (Lk.On MM DD st M1 D1 s1)/\Hid (Below base w wr)/\Hid (fE gc M D wb wr)) (fun vi _=>G.rs.length-(intOf vi).toNat)
 case atStart=>exact⟨0,MM,DD,st,AV _,rfl,HH,cq,cY,aA (Lk.On.refl _ _ _),cX,aA (fE.refl _)⟩
 case round =>
  obtain⟨k,M1,D1,s1,hk,rfl,HA,HP,bu,HO,HW,au⟩:=hrel;rename World=>wr;by_cases A:k<G.rs.length
  ·have cZ:=aA (HR.o (by omega));obtain⟨g,o,rfl,c3,hc⟩:=cZ.o;obtain⟨k0,⟨A',c',k1,bv,_,bw⟩,k2⟩:=hc k A;have bx:g<base:=Ah c3 HB.o;have k0:=(HW.o.cell (p:=⟨g,o+k*3,none⟩) bx).trans k0;have k1:=(HW.o.cell (p:=⟨g,o+k*3+1,none⟩) bx).trans k1;have k2:=(HW.o.cell (p:=⟨g,o+k*3+2,none⟩) bx).trans k2;have c4:=aA bw;have dN:=aA (au.o.row aq.o (by have:=f.o;omega) (by have:=f.o;omega) (by have:=f.o;omega) (fun e=>by have:=ar.o _ e;omega));have c5:=aA (au.o.row bf.o (by have:=f.o;omega) (by have:=f.o;omega) (by have:=f.o;omega) (fun e=>by have:=ar.o _ e;omega));obtain⟨wi,bg⟩:∃y,y=wr.alloc (.cells #[.int .i64 (G.rs[k]).l,.slice A' (G.rs[k]).r.length c',.int .i64 (G.rs[k]).p] 48):=⟨_,rfl⟩
   have C:Hid (Below wr.heap.size wr wi):=aA (by rw[bg];exact(AB _ _).alloc (Af _) _);have bh:wi.heap[wr.heap.size]?=some (.cells #[.int .i64 (G.rs[k]).l,.slice A' (G.rs[k]).r.length c',.int .i64 (G.rs[k]).p] 48 (0,0)):=by rw[bg];exact AG wr _
   have bz:=aA bh;have z0:=aS bh;have z1:=aX (aC C.o c5.o);have F:=aA A;by_cases hl:(G.rs[k]).l = -1-s
   focus
    have hq:((G.rs[k]).l != -1-s)=false:=by rw[hl];simp
    have cr:=aA (AE (l:=G.rs) A);have c6:=aA (fun(a d:Nat) (hd:d<(G.rs[k]).r.length) (av:∀t:Nat,v.testBit t=true->Au.La G E a ((k:Int),(d:Int)) t)=>Lk.vQ HGG.o.hi HGG.o.hE HGG.o.xH HP.o.v0 A hd av);have c7:=aA (fun(a d:Nat) (hd:d<(G.rs[k]).r.length) hs (av:∀t:Nat,v.testBit t=true->Au.La G E a ((k:Int),(d:Int)) t)=>Lk.vP HGG.o.xH HGG.o.ht HGG.o.hp HP.o.v0 HP.o.vl A hd hs av);have c8:=aA (fun(M2:Lk.MP) (d:Nat) (hd:d<(G.rs[k]).r.length) (h:Lk.po G E M2 q v k d) (hs:(G.rs[k]).r[d]<0->Lk.Sub (Lk.sB G v ((G.rs[k]).r.drop (d+1))) (Lk.gN M2 ((Lk.sW E q ((G.rs[k]).r.take d):Nat),(G.rs[k]).r[d])))=>(show Lk.po G E M2 q v k (d+1) from h.step fun _ _ h0=>hs h0));have c9:=aA (fun(M2:Lk.MP) (a:Nat) (h1:Lk.pw G E M2 D1 q s v k) (h2:Lk.po G E M2 q v k (G.rs[k]).r.length) (h3:Lk.sW E q (G.rs[k]).r=a)=>(show Lk.pw G E M2 (Lk.qK D1 ((a:Int),(k:Int)) v) q s v (k+1) from(h1.mono (Lk.kE.refl _) (Lk.kE.or _ _ _)).step fun _ _=>⟨h2,fun da=>by have e:Lk.sW E q (G.rs[k]'da).r=a:=h3;rw[e];exact Lk.ru _ _ _⟩));have db:=aA (fun(M2:Lk.MP) (s2:List (Int×Int)) (a:Nat) (h:Lk.WP G K E q s v M2 D1 s2) (av:∀t:Nat,v.testBit t=true->Au.La G E a ((k:Int),((G.rs[k]).r.length:Int)) t)=>h.put A av);have bD:=aA (HP.o.MR A hl);have dc:=aA (fun(d:Nat) (hd:d<(G.rs[k]).r.length) (h0:(G.rs[k]).r[d]<0)=>Lk.Fu HGG.o.xH HGG.o.ht cr.o hd h0 v);have cs:=aA (Gm.fJ (HGG.o.xH.rr _ cr.o));have de:Hid ((Lk.fK G)[k]?=some (Lk.fI G (G.rs[k]).r)):=aA ((AD (by rw[I.o];exact A)).trans (congrArg some (Lk.qq _ A)));have cu:=aA (Lk.oc G (G.rs[k]).r);have cv:=aA (fun d (h:d<(Lk.fI G (G.rs[k]).r).length)=>Lk.qu (G:=G) (r:=(G.rs[k]).r) h)
    have df:=aA (fun(M2 D2:Lk.MP) (s2:List (Int×Int)) (h1:Lk.WP G K E q s v M2 D2 s2) (h2:Lk.On MM DD st M2 D2 s2)=>(show s2.length<=900000 from by
     have a1:=h2.l;have a2:=HC.o;have a3:=h1.b.wh;have a4:=HGG.o.hK;have a5:=HGG.o.hn;have a6:=DH a4 a5
     omega))
    have bi:=aA (HA.o.below C.o);have bM:Hid (Below base w wi):=aA (HW.o.trans (C.o.mono (Aj J.o HW.o.size)));have cw:Hid (fE gc M D wb wi):=aA (au.o.trans (.below C.o HA.o.nI));have dO:Hid (gc<wr.heap.size/\M<wr.heap.size/\D<wr.heap.size):=aA ⟨HA.o.nI,HA.o.m.lt,HA.o.d.lt⟩
    have dg:Hid (∀j,bY wi gc=some j->j<wr.heap.size):=aA (fun j hj=>HA.o.own j (by
     unfold bY at hj ⊢
     rwa [C.o.cell (p:=⟨gc,0,none⟩) HA.o.nI]at hj))
    have dP:=aA bv;clear hc bw bv bh hl;generalize (G.rs[k]).l=lf at *;generalize (G.rs[k]).r=r at *
   rotate_left
   focus
    have bT:Hid (Lk.pw G E M1 D1 q s v (k+1)):=aA (bu.o.step fun _ e=>absurd e hl);have hq:((G.rs[k]).l != -1-s)=true:=by rw[D4];exact hl
    have bi:=aA (HA.o.below C.o);have bM:Hid (Below base w wi):=aA (HW.o.trans (C.o.mono (Aj J.o HW.o.size)));have cw:Hid (fE gc M D wb wi):=aA (au.o.trans (.below C.o HA.o.nI));clear hc bw bv bh hl;generalize (G.rs[k]).l=lf at *;generalize (G.rs[k]).r.length=rn at *
   rotate_left
   all_goals
    generalize (G.rs[k]).p=rp at *;go_upto_region 5 with fail
    rw[<-bg];clear bg k0 k1 k2;go_quiet ((go_at_call 78;exact Dy (HN.o _)))
    obtain⟨wq,bX⟩:∃y,y=wi.drewN nq:=⟨_,rfl⟩
    rw[<-bX];have aw:Hid (Below wi.heap.size wi wq):=aA (by rw[bX];exact aB (AB _ _) _);clear bX z0 z1;have cx:=aA (bi.o.below aw.o);have cy:Hid (Below base w wq):=aA (bM.o.trans (aw.o.mono (Aj J.o bM.o.size)));have N:Hid (fE gc M D wb wq):=aA (cw.o.trans (.below aw.o bi.o.nI))
   focus
    have dh:=aA (aC aw.o bz.o)
    have dQ:Hid (∀j,bY wq gc=some j->j<wr.heap.size):=aA (fun j hj=>dg.o j (by
     unfold bY at hj ⊢
     rwa [aw.o.cell (p:=⟨gc,0,none⟩) bi.o.nI]at hj))
    have z1:=aX dh.o;have di:=aA (N.o.row bf.o (by have:=f.o;omega) (by have:=f.o;omega) (by have:=f.o;omega) (fun e=>by have:=ar.o _ e;omega));have y0:=aS di.o;have dj:Hid (Lk.po G E M1 q v k 0):=aA (Lk.po.zero _ _ _ _);have dR:((r.length:Nat):Int)<=6:=by have:=cs.o.1;omega
    go_wp2;clear z1 y0;go_loopw [36,9] (fun vd va wy=>∃(d a:Nat) (M2:Lk.MP) (s2:List (Int×Int)),d<=r.length/\vd=.int .i64 d/\va=.int .i64 a/\Hid (yg G wy base R gc T M D AT AN (some ⟨g,o,none⟩) At cT cN cR ct tl M2 D1 s2)/\Hid (Lk.WP G K E q s v M2 D1 s2)/\Hid (Lk.pw G E M2 D1 q s v k)/\Hid (Lk.po G E M2 q v k d)/\Hid (∀t:Nat,v.testBit t=true->Au.La G E a ((k:Int),(d:Int)) t)/\Hid (Lk.sW E q (r.take d)=a)/\Hid (Lk.On MM DD st M2 D1 s2)/\Hid (Below base w wy)/\Hid (fE gc M D wq wy)) (fun vd _ _=>r.length-(intOf vd).toNat)
    case atStart=>exact⟨0,q,M1,s1,AV _,rfl,rfl,cx,HP,bu,dj,bD,aA rfl,HO,cy,aA (fE.refl _)⟩
    case round =>
     obtain⟨d,a,M2,s2,hd,rfl,rfl,H,O,af,ag,ab,bj,bk,U,ax⟩:=hrel;rename World=>wy;have bl:=aA ((fE.trans N.o ax.o).row aq.o (by have:=f.o;omega) (by have:=f.o;omega) (by have:=f.o;omega) (fun e=>by have:=ar.o _ e;omega));by_cases n:d<r.length
     ·have dk:=c6.o a d n ab.o;obtain⟨bm,b0,j,b1,ah,ai⟩:=dk;have cz:=aA (HGG.o.tw _ _ _ b1);have cA:=aA ai;have cB:Hid (Lk.sW E q (r.take (d+1))=j):=aA (by rw[AL n,Lk.mL,bj.o,ah]);have dS:=aA bm;have cC:=aA n;have ay:Gm.In (a:Int):=by have:=HGG.o.hK;unfold Gm.In;omega
      have b2:=cs.o.2.2.2 _ (AE n);have cD:Gm.In r[d]:=by have:=HGG.o.hn;have:=HGG.o.ht;unfold Gm.In;omega
      obtain⟨gq,oq,rfl,dl,b3⟩:=c4.o (by omega);have z0:=(U.o.cell (p:=⟨gq,oq+d,none⟩) (Ah dl HB.o)).trans (b3 d n);rw[L.fy n]at z0;have dT:((d:Nat):Int)<((r.length:Nat):Int):=by omega
      have aj:=aA (fun(M3:Lk.MP) (h:Lk.po G E M3 q v k d)=>c8.o M3 d n h);rw[bj.o]at aj;by_cases hz:r[d]<0
      ·have b4:decide (r[d]<0)=true:=AQ hz;have dm:=c7.o a d n b0 ab.o;obtain⟨ak,cE,cF⟩:=dm;have az:=aA (O.o.MT bm hz b2.2.1 ak cE cF);have dn:=aA (O.o.b.lt ((a:Int),r[d]));have al:=aA (fun(M3:Lk.MP) (h:Lk.po G E M3 q v k d) hs=>aj.o M3 h (fun _=>hs));have cG:=dc.o d n hz;have dp:=(cV.o.uu (fE.trans N.o ax.o) HH.o).rd;obtain⟨gt,ot,rfl,dq,cH⟩:=dp (by rw[I.o];omega);obtain⟨A2,c2,u0,b5,_,am⟩:=cH k (by rw[I.o];exact F.o)
       have a0:(Lk.fK G)[k]'(by rw[I.o];exact F.o)=Lk.fI G r:=by
        have:=de.o
        rw[AD (by rw[I.o];exact F.o)]at this;injection this
       rw[a0]at u0 am;obtain⟨g3,o3,rfl,dr,b6⟩:=am (by rw[cu.o];omega);have t0:=u0;have a9:d<(Lk.fI G r).length:=by rw[cu.o];exact n
       have t1:=b6 d a9 0 (.int .u32 ((Lk.kA G r d).1:Int)) (by rw[cv.o d a9];rfl);have t2:=b6 d a9 1 (.bool (Lk.kA G r d).2) (by rw[cv.o d a9];rfl);rw[Dp]at t1;have ds:((k:Nat):Int)<(((Lk.fK G).length:Nat):Int):=by rw[I.o];have:=F.o;omega
       have dt:((d:Nat):Int)<(((Lk.fI G r).length:Nat):Int):=by omega
       have b7:=aA (Lk.xf G r d);have b9:=aA (fun w=>Pz (Lk.kA G r d) v b7.o HP.o.vl w);rw[cG]at b9;have du:=aA ak;have bo:Hid (Gm.In ((a:Int),r[d]).1/\Gm.In ((a:Int),r[d]).2):=aA ⟨ay,cD⟩;have x1:=rU bl.o;clear b3 cH am b6 dq dr cG ak cE cF b0 ai b1 ah bm b2 a0 u0 b5 a9;unfold Hr at b9;generalize (Lk.kA G r d).1=tb at *;generalize (Lk.kA G r d).2=tn at *;generalize Lk.sB G v (r.drop (d+1))=more at *;generalize r[d]=z at *;go_wp2_with fail
       refine(Gq _ _).mono ?_;rintro _ w5 ⟨rfl,ca⟩;subst ca;rw[b4];go_wp2_with fail
       refine(b9.o _).mono ?_;rintro _ w6 ⟨rfl,bp⟩;have dw:=aA (H.o.below bp);have dx:Hid (Below base w w6):=aA (U.o.trans (bp.mono (Aj J.o U.o.size)));have dy:Hid (fE gc M D wq w6):=aA (ax.o.trans (.below bp H.o.nI));have dz:=aA (JQ w6 base R gc T M D _ _ _ _ _ tl M2 D1 s2 ((a:Int),z) more dw.o bo.o du.o dn.o (df.o _ _ _ O.o bk.o));clear bp t0 t1 t2 x1 ds dt;go_wp2_with fail
       refine dz.o.mono ?_;rintro _ w7 ⟨rfl,cI,cJ,cK⟩;have cL:=aA cI;have dA:Hid (Below base w w7):=aA (dx.o.trans cJ);have bq:Hid (fE gc M D wq w7):=aA (dy.o.trans cK);have dB:=aA az.o.1;have cb:=aA (bk.o.trans az.o.2.1);have cd:=aA (al.o _ (ag.o.mono az.o.2.1.m) az.o.2.2);have ce:=aA (af.o.mono az.o.2.1.m (Lk.kE.refl _));have cf:=aA ((fE.trans N.o bq.o).row aq.o (by have:=f.o;omega) (by have:=f.o;omega) (by have:=f.o;omega) (fun e=>by have:=ar.o _ e;omega));have x5:=rT cf.o;have lk:=Mq cL.o.t ((a:Int),z) bo.o cz.o;clear cI cJ cK;go_wp2;go_roundw
       case rel=>exact⟨d+1,j,_,_,cC.o,by go_num,rfl,cL,dB,ce,cd,cA,cB,cb,dA,bq⟩
       case measure=>simp[intOf];omega
      ·have b4:decide (r[d]<0)=false:=AM hz;have al:=aA (aj.o M2 ag.o (fun h=>absurd h hz));have bo:Hid (Gm.In ((a:Int),r[d]).1/\Gm.In ((a:Int),r[d]).2):=aA ⟨ay,cD⟩;have x5:=rT bl.o;have lk:=Mq H.o.t ((a:Int),r[d]) bo.o cz.o;clear b3 b0 ai b1 ah bm b2;generalize r[d]=z at *;go_wp2_with fail
       refine(Gq _ _).mono ?_;rintro _ w5 ⟨rfl,ca⟩;subst ca;rw[b4];go_wp2;go_roundw
       case rel=>exact⟨d+1,j,_,_,cC.o,by go_num,rfl,H,O,af,al,cA,cB,bk,U,ax⟩
       case measure=>simp[intOf];omega
     ·obtain rfl:d=r.length:=by omega
      rw[Bn]at bj;have bT:=aA (c9.o M2 a af.o ag.o bj.o);have dC:=aA (db.o M2 s2 a O.o ab.o);have cM:Gm.In (k:Int):=by have:=F.o;unfold Gm.In;omega
      have ay:Gm.In (a:Int):=by
       obtain⟨t,ht⟩:=CD HP.o.v0
       have:=(Au.si HGG.o.hi (ab.o t ht)).1
       have:=HGG.o.hK
       unfold Gm.In;omega
      have cg:Hid (Gm.In ((a:Int),(k:Int)).1/\Gm.In ((a:Int),(k:Int)).2):=aA ⟨ay,cM⟩;have hD:=O.o.b.Jl ((a:Int),(k:Int));have dU:=DS (Lk.gN D1 ((a:Int),(k:Int))) v hD HP.o.vl;have cO:Hid (Mw.gZ (Lk.gV D1) ((a:Int),(k:Int)) (.int .u32 ((Lk.gN D1 ((a:Int),(k:Int)) ||| v:Nat):Int))=Lk.gV (Lk.qK D1 ((a:Int),(k:Int)) v)):=aA Lk.oH;have ch:Hid (∀y:World,y.heap[w.heap.size]?=wy.heap[w.heap.size]?->∃z:jg [w.heap.size] wy,y=z.1):=aA (fun y e1=>⟨⟨y,fun g hg=>by rw[AP.1 hg];exact e1⟩,rfl⟩);have ci:D≠w.heap.size:=by have:=f.o;omega
      have br:Hid (yg G wy.drew base R gc T M D AT AN (some ⟨g,o,none⟩) At cT cN cR ct tl M2 D1 s2):=aA (H.o.below (aB (AB _ _) 1));have lkd:=S6 br.o.d.is ((a:Int),(k:Int)) cg.o;obtain⟨u,cc,w6,aa,ba,bb,cj⟩:=Mw.sK br.o.d F1 underlying67 (z:=.int .u32 0) (by kernel_rfl) (x:=((a:Int),(k:Int))) cg.o
      have lk6:(Instr.lookup 67 (.map (some D)) (.agg #[.int .i64 (a:Int),.int .i64 (k:Int)]) false).run prog w6=.ok (.int .u32 (Lk.gN D1 ((a:Int),(k:Int)):Int)) w6:=by
       have:=Mw.gH (E:=qZ) bb F1 (t:=67) underlying67 (z:=.int .u32 0) (by kernel_rfl) (x:=((a:Int),(k:Int))) cg.o false
       rw[Lk.pP]at this;exact this
      obtain⟨w7,ad,ck,cP⟩:=ba.2 w6 rfl (.int .u32 ((Lk.gN D1 ((a:Int),(k:Int)) ||| v:Nat):Int));have bc:qZ.enc ((a:Int),(k:Int))=.agg #[.int .i64 (a:Int),.int .i64 (k:Int)]:=rfl;rw[bc]at aa;rw[cO.o]at ck;have ac:=aA (qO cj cP);have H7:=aA (br.o.G4 ac.o ck);have ao:=(Ad.1 bl.o).1;have r6:=cj.block w.heap.size (show w.heap.size<wy.drew.heap.size from ao) (fun e=>by injection e with e;exact ci e.symm);have r7:=ac.o.block w.heap.size (show w.heap.size<wy.drew.heap.size from ao) (fun e=>by injection e with e;exact ci e.symm);have cl:=aA (ch.o wy.drew rfl);have V:=aA (ch.o w6 r6);have cQ:=aA (ch.o w7 r7);have ae:=aA aa;have bd:=aA ad;have cm:=aA lk6;have cn:=aA lkd;have dD:Hid (Below base w w7):=aA (pF (U.o.trans (aB (AB _ _) 1)) ac.o H7.o.hD (Aj J.o U.o.size));have bq:Hid (fE gc M D wb w7):=aA (((fE.trans N.o ax.o).trans (.below (aB (AB _ _) 1) H.o.nI)).trans (.Hc ac.o br.o.nI H.o.E8.2.1));have cb:=aA (bk.o.trans (Lk.yM (st:=s2) ((a:Int),(k:Int)) v));clear aa ad ba bb cj ck cP r6 r7 lk6 lkd bc cO ay cM hD ci ao;generalize Lk.gN D1 ((a:Int),(k:Int))=dv at *;generalize cS:wy.drew=wd at *;go_upto_region 14 with fail
      have qD:∀y:jg [w.heap.size] wy,y.1.cell? ⟨w.heap.size,7,none⟩=some (.map (some D)):=fun y=>y.row (by simp) bl.o rfl;have S0:∃y:jg [w.heap.size] wy,wy.drew=y.1:=by rw[cS];exact cl.o
      refine CalmN.fk (fun x=>∃y:jg [w.heap.size] wy,x=y.1) (.two [0,1,2,3,4,6] 5 (.one [7] 8 (.one [9] 10 (.fin []))) 8 (.one [9] 5 (.one [7] 10 (.fin [])))) (by kernel_rfl) (by kernel_rfl) (fun _ _ d _ _ h=>by cases d <;> exact h) S0 ?_;rw[CalmN.fN];simp only[CalmN.fo,Az,Am,Ap];repeat (go_big_quiet_step (fail))
      rw[cS];clear S0;refine Aw ⟨?_,?_⟩
      case' refine_1 =>
       simp only[CalmN.fN,CalmN.fv,CalmN.fo,Az,Am,Ap];intro KK i;rw[AC (by rfl)];have lkd:=cn.o;go_wp2_with fail
       refine i _ _ cl.o _ (fun _ h=>h) cl.o ?_;clear i lkd;repeat (go_big_quiet_step (fail))
       refine Aw ?_;intro KK i;rw[AC (by rfl)];refine FD _ _ _ rfl ae.o rfl rfl ?_;refine i _ _ V.o _ (fun _ h=>h) V.o ?_;clear i
       go_frame
       repeat (go_big_quiet_step (fail))
       refine Aw ?_
      case' refine_2 =>
       simp only[CalmN.fN,CalmN.fv,CalmN.fo,Az,Am,Ap];intro KK i;rw[AC (by rfl)];refine FD _ _ _ rfl ae.o rfl rfl ?_;refine i _ _ V.o _ (fun _ h=>h) V.o ?_;clear i
       go_frame
       repeat (go_big_quiet_step (fail))
       refine Aw ?_;intro KK i;rw[AC (by rfl)];have lk6:=cm.o;go_wp2_with fail
       refine i _ _ V.o _ (fun _ h=>h) V.o ?_;clear i lk6;repeat (go_big_quiet_step (fail))
       refine Aw ?_
      all_goals
       intro KK i;rw[AC (by rfl)];refine Ic _ _ _ _ rfl bd.o rfl rfl rfl ?_;refine i _ _ cQ.o _ (fun _ h=>h) cQ.o ?_;clear i qD
       go_frame
       refine Aw ?_;go_wp2;go_roundw
       case rel=>exact⟨k+1,M2,_,s2,F.o,by go_num,H7,dC,bT,cb,dD,bq⟩
       case measure=>simp[intOf];omega
   focus
    go_wp2;go_roundw
    case rel=>exact⟨k+1,M1,D1,s1,F.o,by go_num,cx,HP,bT,HO,cy,N⟩
    case measure=>simp[intOf];omega
  ·obtain rfl:k=G.rs.length:=by omega
   go_wp2;go_end0
   exact⟨rfl,M1,D1,s1,HA.o,HP.o.done bu.o,HO.o,HW.o,fE.trans cW.o au.o⟩
end Go.Proofs.YtcmhaemaophplaaGreat
