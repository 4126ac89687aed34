/- Part of the proofs over this program: TbRight, Alive17T, TbBuild, Alive17, TbLaw, RtRight. -/
import Derived.Test.YtjjbaehamplnaaaGreatHO
set_option linter.all false
namespace Go
def D9:=@List.getElem_of_eq
def EU:=@bne_eq_false_iff_eq
end Go
open Go.RowKit Go.Proofs.Tryz
set_option maxRecDepth 100000
set_option maxHeartbeats 40000000
namespace Go.Proofs.YtjjbaehamplnaaaGreat
variable {A:Option Go.Addr} {B i k n:Nat} {E:List (List (Int×Int))} {G:Gm.Gr} {l:List Int} {s:Int} {w:Go.World}
namespace Tb
def iS (G:Gm.Gr) (n:Nat) (x:Ce):Bool:=if x.1=0\/x.1=3 then x.2==0 else if x.1=1 then decide (0<=x.2)&&decide (x.2<n) else if x.1=2 then decide (0<=x.2)&&decide (x.2<G.rs.length) else false
def ju (n:Nat) (z:Int):Bool:=z == -1||(decide (0<=z)&&decide (z<n))
def ph (G:Gm.Gr) (n:Nat) (r:List Ce):Bool:=decide (r.length=G.ts.length+1)&&r.all (iS G n)
def pG (G:Gm.Gr) (n:Nat) (r:List Int):Bool:=decide (r.length=G.ns.length)&&r.all (ju n)
end Tb
theorem PN (v:Value) (G:Gm.Gr) (B n:Nat) (x:Tb.Ce) (w:World) (hg:aT w B v G) :
  Calls prog 71 #[v,.int .i64 n,.agg #[.int .i64 x.1,.int .i64 x.2]] w fun e w'=>e=.returned (.bool (Tb.iS G n x))/\β w w':=by
 have HX:=aA (fun m w=>GO x.2 m w);obtain⟨AT,cT,AN,cN,AR,cR,rfl,_⟩:=hg;have d:=aA (bA.start 26 63 w #[.slice AT G.ts.length cT,.slice AN G.ns.length cN,.slice AR G.rs.length cR,.int .i64 G.st] #[.int .i64 x.1,.int .i64 x.2]);have x2:=d.o.c1 2 _ rfl;have y0:=d.o.c2 0 _ rfl;have y1:=d.o.c2 1 _ rfl;have HC:Hid (Tb.iS G n x=if x.1=0\/x.1=3 then x.2==0 else if x.1=1 then decide (0<=x.2)&&decide (x.2<n) else if x.1=2 then decide (0<=x.2)&&decide (x.2<G.rs.length) else false):=aA rfl;generalize Tb.iS G n x=r at *;obtain⟨a,b⟩:=x;simp only at HC HX x2 y0 y1 d ⊢;by_cases h0:a=0
 ·have HE:=aA (HC.o.trans (Az (.inl h0)));subst h0
  go_enter func71,ntmps71
  go_wp2;go_ret
  exact⟨aD HE.o.symm,d.o.below⟩
 ·by_cases h3:a=3
  ·have HE:=aA (HC.o.trans (Az (.inr h3)));subst h3
   go_enter func71,ntmps71
   go_wp2;go_ret
   exact⟨aD HE.o.symm,d.o.below⟩
  ·have HC:=aA (HC.o.trans (AJ ω));by_cases h1:a=1
   ·have HE:=aA (HC.o.trans (Az h1));subst h1;clear h0 h3
    go_enter func71,ntmps71
    go_wp2_with fail
    refine(HX.o _ _).mono ?_;rintro _ _ ⟨rfl,rfl⟩;go_wp2;go_ret
    exact⟨aD HE.o.symm,d.o.below⟩
   ·have HC:=aA (HC.o.trans (AJ h1));by_cases h2:a=2
    ·have HE:=aA (HC.o.trans (Az h2));subst h2;clear h0 h3 h1
     go_enter func71,ntmps71
     go_wp2_with fail
     refine(HX.o _ _).mono ?_;rintro _ _ ⟨rfl,rfl⟩;go_wp2;go_ret
     exact⟨aD HE.o.symm,d.o.below⟩
    ·have HE:=aA (HC.o.trans (AJ h2));have b0:(a==0)=false:=by simpa using h0
     have b1:(a==1)=false:=by simpa using h1
     have b2:(a==2)=false:=by simpa using h2
     have b3:(a==3)=false:=by simpa using h3
     clear h0 h1 h2 h3
     go_enter func71,ntmps71
     go_wp2;go_ret
     exact⟨aD HE.o.symm,d.o.below⟩
theorem Rg {l:List Tb.Ce} {p:Tb.Ce->Bool} (h:k<l.length):(l.take (k+1)).any p=((l.take k).any p||p l[k]):=by
 rw[AP h,List.any_append];simp
theorem ON (fb:Nat) (c1 c2:Value) (hE:∀args w,Sem.run prog (callFunc fb args) w=.ok (.enter fb args) w) (l:List Tb.Ce) (p:Tb.Ce->Bool) (A:Option Addr) (c B:Nat) (w:World) (hr:iC 2 fM w B A l) (hB:B<=w.heap.size) (hl:l.length<=9223372036854775807) (hp:∀y z,β w y->z∈l->Calls prog fb #[.agg #[.int .i64 z.1,.int .i64 z.2],c1,c2] y fun e w'=>e=.returned (.bool (p z))/\β y w') :
  Calls prog 106 #[.slice A l.length c,.func (Fn.func fb) #[] #[c1,c2]] w fun e w'=>(∃k:Int,e=.returned (.int .i64 k)/\decide (0<=k)=l.any p)/\β w w':=by
 have HR:=aA hr;have HB:=aA hB;have HP:=aA hp;have ad:(l.length:Int)<=9223372036854775807:=ω
 clear hr hp hB hl
 go_enter func106,ntmps106
 go_wp2;go_loopw [8] (fun vi wr=>∃k:Nat,k<=l.length/\vi=.int .i64 k/\Hid ((l.take k).any p=false)/\Hid (β w wr)) (fun vi _=>l.length-(intOf vi).toNat)
 case atStart=>exact⟨0,Bb _,rfl,aA σ,aA (AB _ _)⟩
 case round =>
  obtain⟨k,hk,rfl,HK,HW⟩:=hrel;by_cases b:k<l.length
  ·obtain⟨g,o,rfl,ac,hc⟩:=HR.o ω;have k0:=(HW.o.cell (p:=⟨g,o+k*2+0,none⟩) (Aj ac HB.o)).trans (hc k b 0 (.int .i64 (l[k]).1) rfl);have k1:=(HW.o.cell (p:=⟨g,o+k*2+1,none⟩) (Aj ac HB.o)).trans (hc k b 1 (.int .i64 (l[k]).2) rfl);rw[CB]at k0;have aa:=aA (HP.o wr _ HW.o (AD b));have HN:=aA (Rg (p:=p) b);have HY:=aA (fun h:p l[k]=true=>(ER.2 ⟨_,AD b,h⟩:l.any p=true));clear hc;generalize l[k]=z at *;cases hz:p z
   ·rw[hz]at aa HN;have HX:=aA (HN.o.trans (by rw[HK.o]));clear hz HN HY;go_wp2_with fail
    refine aa.o.mono ?_;rintro _ w2 ⟨rfl,hb⟩;have ab:=aA (HW.o.trans (hb.mono HW.o.size));clear hb k0 k1;go_wp2;go_roundw
    case rel=>exact⟨k+1,b,ν,HX,ab⟩
    case measure=>simp[intOf];omega
   ·rw[hz]at aa;have HX:=aA (HY.o hz);clear hz HN HY;go_wp2_with fail
    refine aa.o.mono ?_;rintro _ w2 ⟨rfl,hb⟩;have ab:=aA (HW.o.trans (hb.mono HW.o.size));clear hb k0 k1;go_wp2;go_ret
    exact⟨⟨_,rfl,by rw[HX.o,AV ω]⟩,ab.o⟩
  ·obtain rfl:k=l.length:=ω
   rw[Bp]at HK;go_wp2;go_ret
   exact⟨⟨_,rfl,by rw[HK.o];rfl⟩,HW.o⟩
theorem Of (fb:Nat) (c1 c2:Value) (hE:∀args w,Sem.run prog (callFunc fb args) w=.ok (.enter fb args) w) (l:List Tb.Ce) (p:Tb.Ce->Bool) (A:Option Addr) (c B:Nat) (w:World) (hr:iC 2 fM w B A l) (hB:B<=w.heap.size) (hl:l.length<=9223372036854775807) (hp:∀y z,β w y->z∈l->Calls prog fb #[.agg #[.int .i64 z.1,.int .i64 z.2],c1,c2] y fun e w'=>e=.returned (.bool (p z))/\β y w') :
  Calls prog 69 #[.slice A l.length c,.func (Fn.func fb) #[] #[c1,c2]] w fun e w'=>e=.returned (.bool (l.any p))/\β w w':=by
 have H:=aA (ON fb c1 c2 hE l p A c B w hr hB hl hp);clear hr hB hl hp
 go_enter func69,ntmps69
 go_wp2_with fail
 refine H.o.mono ?_;rintro _ w2 ⟨⟨k,rfl,hk⟩,hb⟩;have HK:=aA hk;have HB:=aA hb;clear hk hb;go_wp2;go_ret
 exact⟨aD HK.o,HB.o⟩
theorem PO (G:Gm.Gr) (B n:Nat) (z:Tb.Ce) (a:Array Value) (w y:World) (hg:aT y B (.agg a) G) (hB:B<=y.heap.size) (ho:bA 26 3 w a #[.int .i64 n] y) :
  Calls prog 70 #[.agg #[.int .i64 z.1,.int .i64 z.2],.pointer (some ⟨w.heap.size,0,none⟩),.pointer (some ⟨w.heap.size+1,0,none⟩)] y fun e w'=>e=.returned (.bool (!Tb.iS G n z))/\β y w':=by
 have b:=aA (aZ.start 63 y #[.int .i64 z.1,.int .i64 z.2]);have H:=aA (PN (.agg a) G B n z _ (hg.below b.o.below hB));obtain⟨AT,cT,AN,cN,AR,cR,hv,_⟩:=hg;injection hv with hv;subst hv;have q0:=(ho.on b.o.below).c1 0 _ rfl;have q1:=(ho.on b.o.below).c1 1 _ rfl;have q2:=(ho.on b.o.below).c1 2 _ rfl;have q3:=(ho.on b.o.below).c1 3 _ rfl;have q4:=(ho.on b.o.below).c2 0 _ rfl;have z0:=b.o.c 0 _ rfl;have z1:=b.o.c 1 _ rfl;have hs:w.heap.size+2<=y.heap.size:=ho.size;clear ho
 go_enter func70,ntmps70
 go_wp2_with fail
 refine H.o.mono ?_;rintro _ w2 ⟨rfl,hb⟩;have HB:=aA (b.o.on hb);clear hb z0 z1 q0 q1 q2 q3 q4;go_wp2;go_ret
 exact⟨rfl,HB.o.below⟩
theorem PK (n gb:Nat) (z:Int) (w:World) (hb:w.cell? ⟨gb,0,none⟩=some (.int .i64 n)) :
  Calls prog 73 #[.int .i64 z,.pointer (some ⟨gb,0,none⟩)] w fun e w'=>e=.returned (.bool (!Tb.ju n z))/\β w w':=by
 have HX:=aA (fun w=>GO z n w);have HC:Hid (Tb.ju n z=(z == -1||(decide (0<=z)&&decide (z<n)))):=aA rfl;have lb:=Bl hb;generalize Tb.ju n z=r at *;by_cases h1:z = -1
 ·have HE:Hid (r=true):=aA (by rw[HC.o,h1];rfl);subst h1
  go_enter func73,ntmps73
  go_wp2;go_ret
  exact⟨aD (by rw[HE.o];rfl),AB _ _⟩
 ·have b1:(z == -1)=false:=by simpa using h1
  have b2:(z != -1)=true:=by simpa using h1
  have HE:Hid (r=(decide (0<=z)&&decide (z<n))):=aA (by rw[HC.o,b1];rfl);clear h1
  go_enter func73,ntmps73
  go_wp2_with fail
  refine(HX.o _).mono ?_;rintro _ _ ⟨rfl,rfl⟩;go_wp2;go_ret
  exact⟨aD (by rw[HE.o,Bool.not_and]),AB _ _⟩
theorem PQ (v:Value) (G:Gm.Gr) (B BR n:Nat) (r:List Tb.Ce) (A:Option Addr) (c:Nat) (w:World) (hg:aT w B v G) (hB:B<=w.heap.size) (hr:iC 2 fM w BR A r) (aa:BR<=w.heap.size) (hl:r.length<=9223372036854775807) (hT:G.ts.length<=24) :
  Calls prog 36 #[v,.int .i64 n,.slice A r.length c] w fun e w'=>e=.returned (.bool (Tb.ph G n r))/\β w w':=by
 have ac:=aA (fun(x:World) (h:β w x)=>hg.below h hB);have ad:=aA hB;obtain⟨AT,cT,AN,cN,AR,cR,rfl,_⟩:=hg;have b:=aA (bA.start 26 3 w #[.slice AT G.ts.length cT,.slice AN G.ns.length cN,.slice AR G.rs.length cR,.int .i64 G.st] #[.int .i64 n]);have x0:=b.o.c1 0 _ rfl;have ag:(G.ts.length:Int)<=24:=ω
 have ah:(r.length:Int)<=9223372036854775807:=ω
 have HF:=aA (Of 70 (.pointer (some ⟨w.heap.size,0,none⟩)) (.pointer (some ⟨w.heap.size+1,0,none⟩)) (yE func70 κ κ) r (fun z=>!Tb.iS G n z) A c BR _ (hr.below b.o.below aa) (Ah aa b.o.below.size) hl
  (fun y z hy _=>PO G B n z _ w y (ac.o y (b.o.below.trans (hy.mono (by have:=b.o.size;omega)))) (Ah ad.o (Ah b.o.below.size hy.size)) (b.o.on hy)))
 have ab:r.any (fun z=>!Tb.iS G n z) = !r.all (Tb.iS G n):=by rw[E4];simp
 rw[ab]at HF;have HC:Hid (Tb.ph G n r=(decide (r.length=G.ts.length+1)&&r.all (Tb.iS G n))):=aA rfl;generalize r.all (Tb.iS G n)=bb at *;generalize Tb.ph G n r=res at *;clear hr aa hl hB ab hT;by_cases h:r.length=G.ts.length+1
 ·have HE:Hid (res=bb):=aA (by rw[HC.o,AV h,Cw]);have ae:((r.length:Int)==(G.ts.length:Int)+1)=true:=by rw[BP];omega
  clear h;generalize r.length=rn at *
  go_enter func36,ntmps36
  go_wp2_with fail
  refine HF.o.mono ?_;rintro _ w2 ⟨rfl,hb⟩;have af:=aA (b.o.on hb);clear hb x0;go_wp2;go_ret
  exact⟨aD HE.o.symm,af.o.below⟩
 ·have HE:Hid (res=false):=aA (by rw[HC.o,AU h,CZ]);have ae:((r.length:Int)==(G.ts.length:Int)+1)=false:=by rw[Bc];omega
  clear h;generalize r.length=rn at *
  go_enter func36,ntmps36
  go_wp2;go_ret
  exact⟨aD HE.o.symm,b.o.below⟩
theorem iC.Oc (h:iC 1 xg w B A l):gg w B A l:=fun hn=>by
 obtain⟨g,o,rfl,hg,hc⟩:=h hn;refine⟨g,o,rfl,hg,fun j hj=>?_⟩
 have:=hc j hj 0 _ rfl
 rw[DS,CB]at this;rw[L.fy hj];exact this
theorem PL (v:Value) (G:Gm.Gr) (B BR n:Nat) (r:List Int) (A:Option Addr) (c:Nat) (w:World) (hg:aT w B v G) (hr:gg w BR A r) (aa:BR<=w.heap.size) (hl:r.length<=9223372036854775807) :
  Calls prog 37 #[v,.int .i64 n,.slice A r.length c] w fun e w'=>e=.returned (.bool (Tb.pG G n r))/\β w w':=by
 obtain⟨AT,cT,AN,cN,AR,cR,rfl,_⟩:=hg;have b:=aA (bA.start 26 3 w #[.slice AT G.ts.length cT,.slice AN G.ns.length cN,.slice AR G.rs.length cR,.int .i64 G.st] #[.int .i64 n]);have x1:=b.o.c1 1 _ rfl
 have HF:=aA (Kv 73 (.pointer (some ⟨w.heap.size+1,0,none⟩)) (yE func73 κ κ) r (fun z=>!Tb.ju n z) A c BR _ (hr.below b.o.below aa) (Ah aa b.o.below.size) hl
  (fun y z hy _=>PK n (w.heap.size+1) z y ((b.o.on hy).c2 0 _ rfl)))
 have ab:r.any (fun z=>!Tb.ju n z) = !r.all (Tb.ju n):=by rw[E4];simp
 rw[ab]at HF;have HC:Hid (Tb.pG G n r=(decide (r.length=G.ns.length)&&r.all (Tb.ju n))):=aA rfl;generalize r.all (Tb.ju n)=bb at *;generalize Tb.pG G n r=res at *;clear hr aa hl ab;by_cases h:r.length=G.ns.length
 ·have HE:Hid (res=bb):=aA (by rw[HC.o,AV h,Cw]);have ac:((r.length:Int)==(G.ns.length:Int))=true:=by rw[BP];omega
  clear h;generalize r.length=rn at *
  go_enter func37,ntmps37
  go_wp2_with fail
  refine HF.o.mono ?_;rintro _ w2 ⟨rfl,hb⟩;have ad:=aA (b.o.on hb);clear hb x1;go_wp2;go_ret
  exact⟨aD HE.o.symm,ad.o.below⟩
 ·have HE:Hid (res=false):=aA (by rw[HC.o,AU h,CZ]);have ac:((r.length:Int)==(G.ns.length:Int))=false:=by rw[Bc];omega
  clear h;generalize r.length=rn at *
  go_enter func37,ntmps37
  go_wp2;go_ret
  exact⟨aD HE.o.symm,b.o.below⟩
namespace Tb
def jW (G:Gm.Gr) (rs:List (List Ce)) (gs:List (List Int)) (i:Nat):Bool:=ph G rs.length (rs.getD i [])&&pG G rs.length (gs.getD i [])
def may (G:Gm.Gr) (rs:List (List Ce)) (gs:List (List Int)):Bool:=Gm.right G&&decide (rs.length=gs.length)&&decide (1<=rs.length)&&decide (rs.length<=300)&&(List.range rs.length).all (jW G rs gs)
theorem uF {rs:List (List Ce)} {gs:List (List Int)} (h:¬(Gm.right G=true/\rs.length=gs.length/\1<=rs.length/\rs.length<=300)):may G rs gs=false:=by
 unfold may;cases hq:(Gm.right G&&decide (rs.length=gs.length)&&decide (1<=rs.length)&&decide (rs.length<=300))
 ·rw[CZ]
 ·simp only[Bd,Bj]at hq;exact absurd ⟨hq.1.1.1,hq.1.1.2,hq.1.2,hq.2⟩ h
theorem q7 {rs:List (List Ce)} {gs:List (List Int)} (h:Gm.right G=true/\rs.length=gs.length/\1<=rs.length/\rs.length<=300):may G rs gs=(List.range rs.length).all (jW G rs gs):=by
 unfold may;rw[h.1,AV h.2.1,AV h.2.2.1,AV h.2.2.2];rfl
theorem pg (p:Nat->Bool) (i:Nat):(List.range (i+1)).all p=((List.range i).all p&&p i):=by
 rw[CM,List.all_append];simp
theorem rR {p:Nat->Bool} (hi:i<n) (h:p i=false):(List.range n).all p=false:=by
 rw[Eg];exact⟨i,BU.2 hi,by rw[h];decide⟩
end Tb
theorem Pn (v:Value) (G:Gm.Gr) (B BT:Nat) (vt:Value) (rs:List (List Tb.Ce)) (gs:List (List Int)) (w:World) (hg:aT w B v G) (hf:Gm.Fit G) (hB:B<=w.heap.size) (ht:tS w BT vt rs gs) (k:BT<=w.heap.size) (a3:rs.length<=9223372036854775807/\gs.length<=9223372036854775807) (ae:∀r∈rs,r.length<=9223372036854775807) (af:∀r∈gs,r.length<=9223372036854775807) :
  Calls prog 17 #[v,vt] w fun e w'=>e=.returned (.bool (Tb.may G rs gs))/\β w w':=by
 have H1:=aA (fun(x:World) (h:β w x)=>zT v G B x (hg.below h hB) hf (Ah hB h.size));have a4:=aA hg;have bp:=aA hB;have ao:=aA k;have a5:=aA ae;have a6:=aA af;have a9:(rs.length:Int)<=9223372036854775807:=ω
 have bb:(gs.length:Int)<=9223372036854775807:=ω
 obtain⟨AA,cA,AG,cG,rfl,_,_,_,_,ap,aq⟩:=ht;have ar:=aA ap;have au:=aA aq;have s:=aA (fun(q:Gm.right G=true) (x:World) (h:β w x) (r:List Tb.Ce) (A:Option Addr) (c:Nat) (hr:iC 2 fM w BT A r) (ag:r∈rs)=>PQ v G B BT rs.length r A c x (hg.below h hB) (Ah hB h.size) (hr.below h k) (Ah k h.size) (ae r ag) ((Gm.fK G.ts).1 (Gm.fq.1 q).t).1);have ah:=aA (fun(x:World) (h:β w x) (r:List Int) (A:Option Addr) (c:Nat) (hr:iC 1 xg w BT A r) (ag:r∈gs)=>PL v G B BT rs.length r A c x (hg.below h hB) (hr.below h k).Oc (Ah k h.size) (af r ag));obtain⟨AT,cT,AN,cN,AR,cR,rfl,_⟩:=hg;obtain⟨w1,l⟩:∃y,y=(w.alloc (.cells #[.slice AT G.ts.length cT,.slice AN G.ns.length cN,.slice AR G.rs.length cR,.int .i64 G.st] 26)).alloc (.cells #[.slice AA rs.length cA,.slice AG gs.length cG] 33):=⟨_,rfl⟩
 have b:Hid (bA 26 33 w #[.slice AT G.ts.length cT,.slice AN G.ns.length cN,.slice AR G.rs.length cR,.int .i64 G.st] #[.slice AA rs.length cA,.slice AG gs.length cG] w1):=aA (by rw[l];exact bA.start _ _ _ _ _);have x0:=b.o.c1 0 _ rfl;have x1:=b.o.c1 1 _ rfl;have x2:=b.o.c1 2 _ rfl;have x3:=b.o.c1 3 _ rfl;have y0:=b.o.c2 0 _ rfl;have u:=aA (H1.o w1 b.o.below);clear ap aq hf hB k a3 ae af H1 a4;by_cases m:Gm.right G=true/\rs.length=gs.length/\1<=rs.length/\rs.length<=300
 ·have aa:=aA (Tb.q7 m);rw[aa.o];obtain⟨q,ab,ai,aj⟩:=m;have s:=aA (s.o q);rw[q]at u;have bc:=aA ab;have HQ:=aA (Ca ai aj);obtain⟨n,hn⟩:∃n,rs.length=n:=⟨_,rfl⟩
  rw[<-ab]at b;rw[hn]at b s ah HQ aa y0;have HN:=aA hn;have ai:=HQ.o.1;have aj:=HQ.o.2;have bd:((n:Int) != (n:Int))=false:=σ
  have bf:(1:Int)<=(n:Int):=ω
  have bq:(n:Int)<=300:=ω
  rw[hn];clear q bb a9 hn
  go_enter func17,ntmps17
  go_upto_region 1 with fail
  rw[<-ab,HN.o]at l ⊢;rw[<-l];clear l ab;go_wp2_with fail
  refine u.o.mono ?_;rintro _ w2 ⟨rfl,hb⟩;have j:=aA (b.o.on hb);clear hb x0 x1 x2 x3 y0;have y1:=j.o.c2 1 _ rfl;go_wp2;clear y1 bd bf ai aj u b;go_loopw [29] (fun vi wr=>∃i:Nat,i<=n/\vi=.int .i64 i/\Hid ((List.range i).all (Tb.jW G rs gs)=true)/\Hid (bA 26 33 w #[.slice AT G.ts.length cT,.slice AN G.ns.length cN,.slice AR G.rs.length cR,.int .i64 G.st] #[.slice AA n cA,.slice AG n cG] wr)) (fun vi _=>n-(intOf vi).toNat)
  case atStart=>exact⟨0,Bb _,rfl,aA rfl,j⟩
  case round =>
   clear j;obtain⟨i,hi,rfl,HA,HW⟩:=hrel;rename World=>wr;by_cases ak:i<n
   ·have ac:i<rs.length:=by have:=HN.o;omega
    have ad:i<gs.length:=by have:=bc.o;omega
    obtain⟨gA,oA,rfl,bh,av⟩:=ar.o ω;obtain⟨A1,c1,k1,-,-,r1⟩:=av i ac;obtain⟨gG,oG,rfl,bi,aw⟩:=au.o ω;obtain⟨A2,c2,k2,-,-,r2⟩:=aw i ad;have e1:rs.getD i []=rs[i]:=by rw[Aw,AH ac];rfl
    have e2:gs.getD i []=gs[i]:=by rw[Aw,AH ad];rfl
    have al:Hid (Tb.jW G rs gs i=(Tb.ph G n rs[i]&&Tb.pG G n gs[i])):=aA (by unfold Tb.jW;rw[e1,e2,HN.o]);have bj:=aA (fun(x:World) (h:β w x)=>s.o x h _ A1 c1 r1 (AD ac));have bk:=aA (fun(x:World) (h:β w x)=>ah.o x h _ A2 c2 r2 (AD ad));have bl:=aA (Tb.pg (Tb.jW G rs gs) i);have ax:=aA (fun h=>Tb.rR (p:=Tb.jW G rs gs) ak h);have ay:=aA ak;have br:(i:Int)<(n:Int):=ω
    clear e1 e2 av aw r1 r2;generalize rs[i]=ra at *;generalize gs[i]=rg at *;generalize Tb.ph G n ra=ba at *;generalize Tb.pG G n rg=bg at *;clear ac ad ak;have q0:=fun y:Calm.On wr.heap.size wr=>(HW.o.on y.2).c1 0 _ rfl;have q1:=fun y:Calm.On wr.heap.size wr=>(HW.o.on y.2).c1 1 _ rfl;have q2:=fun y:Calm.On wr.heap.size wr=>(HW.o.on y.2).c1 2 _ rfl;have q3:=fun y:Calm.On wr.heap.size wr=>(HW.o.on y.2).c1 3 _ rfl;have p0:=fun y:Calm.On wr.heap.size wr=>(HW.o.on y.2).c2 0 _ rfl;have p1:=fun y:Calm.On wr.heap.size wr=>(HW.o.on y.2).c2 1 _ rfl;have m1:=fun y:Calm.On wr.heap.size wr=>((HW.o.on y.2).below.cell (p:=⟨gA,oA+i,none⟩) (Aj bh ao.o)).trans k1;have m2:=fun y:Calm.On wr.heap.size wr=>((HW.o.on y.2).below.cell (p:=⟨gG,oG+i,none⟩) (Aj bi ao.o)).trans k2;have HD:Hid (β wr wr.drew):=aA (aB (AB _ _) 1);go_upto_region 7 with fail
    refine CalmN.fk (γ wr) (.one [0,1,2,3,4,5,6] 7 (.one [8,9,10,11,12,13,14,15,16] 17 (.fin [18,19]))) ⟨⟨wr.drew,HD.o⟩,rfl⟩ ?_;simp only[CalmN.fS,CalmN.fu,CalmN.fo,Aq,Ai,Am];repeat (go_big_quiet_step (fail))
    refine Ap ?_;generalize wr.drew=wd at *;have bm:=aA (HW.o.on HD.o);intro KK f;rw[Az ε];clear k1 k2;go_wp2_with fail
    refine(bj.o wd bm.o.below).mono ?_;rintro _ w3 ⟨rfl,az⟩;have g:=aA (HD.o.trans (az.mono HD.o.size));have a0:=aA (HW.o.on g.o);clear az;cases ba
    ·have HF:=aA (ax.o (by rw[al.o];rfl));go_wp2_with fail
     refine f _ _ ⟨⟨w3,g.o⟩,rfl⟩ _ ι ⟨⟨w3,g.o⟩,rfl⟩ ?_;clear f;repeat (go_big_quiet_step (fail))
     refine Ap ?_;intro KK f;rw[IC ε];refine f _ _ ⟨⟨w3,g.o⟩,rfl⟩ _ ι ⟨⟨w3,g.o⟩,rfl⟩ ?_;clear f
     go_frame
     repeat (go_big_quiet_step (fail))
     refine Ap ?_;clear q0 q1 q2 q3 p0 p1 m1 m2;go_wp2;go_ret
     exact⟨aD HF.o.symm,a0.o.below⟩
    ·go_wp2_with fail
     refine f _ _ ⟨⟨w3,g.o⟩,rfl⟩ _ ι ⟨⟨w3,g.o⟩,rfl⟩ ?_;clear f;repeat (go_big_quiet_step (fail))
     refine Ap ?_;intro KK f;rw[Az ε];clear q0 q1 q2 q3 p0 p1 m1 m2;go_wp2_with fail
     refine(bk.o w3 a0.o.below).mono ?_;rintro _ w4 ⟨rfl,a1⟩;have am:=aA (g.o.trans (a1.mono g.o.size));have a2:=aA (HW.o.on am.o);clear a1;go_wp2_with fail
     refine f _ _ ⟨⟨w4,am.o⟩,rfl⟩ _ ι ⟨⟨w4,am.o⟩,rfl⟩ ?_;clear f;cases bg
     ·have HF:=aA (ax.o (by rw[al.o];rfl));repeat (go_big_quiet_step (fail))
      refine Ap ?_;go_wp2;go_ret
      exact⟨aD HF.o.symm,a2.o.below⟩
     ·have HX:Hid ((List.range (i+1)).all (Tb.jW G rs gs)=true):=aA (by rw[bl.o,HA.o,al.o];rfl);repeat (go_big_quiet_step (fail))
      refine Ap ?_;go_wp2;go_roundw
      case rel=>exact⟨i+1,ay.o,ν,HX,a2⟩
      case measure=>simp[intOf];have:=ay.o;omega
   ·obtain rfl:i=n:=ω
    go_wp2;go_ret
    exact⟨aD HA.o.symm,HW.o.below⟩
 ·have aa:=aA (Tb.uF m);rw[aa.o];clear s ah ar au a5 a6;cases q:Gm.right G
  all_goals
   rw[q]at u m;have bn:=aA m;clear q m
   go_enter func17,ntmps17
   go_upto_region 1 with fail
   rw[<-l];clear l;go_wp2_with fail
   refine u.o.mono ?_;rintro _ w2 ⟨rfl,hb⟩;have j:=aA (b.o.on hb);clear hb x0 x1 x2 x3 y0;have y1:=j.o.c2 1 _ rfl
  ·go_wp2;go_ret
   exact⟨rfl,j.o.below⟩
  ·have bo:¬(rs.length=gs.length/\1<=rs.length/\rs.length<=300):=fun h=>bn.o ⟨by trivial,h⟩;go_wp2
   all_goals
    first
     | (go_ret;exact⟨rfl,j.o.below⟩)
     | (exfalso;omega)
namespace Tb
theorem yx {K:List (List Au.It)} {L:List (List (Int×Int))} (h:Gm.ja G=true) (k:Au.ku G=some (K,E)) (hl:Lk.pS G=L) :
  gI G=(List.range K.length).map (fun q=>fQ (G.ts.length+1) fun t=>(act G (shift G (K.getD q []) (E.getD q [])) (L.getD q []) t).1)/\ic G=(List.range K.length).map (om G E)/\np G=(List.range K.length).flatMap fun q:Nat=>rW q G (shift G (K.getD q []) (E.getD q [])) (L.getD q []) (G.ts.length+1):=by
 have e:∀q,q<K.length->Lk.gh G K E q=L.getD q []:=fun q hq=>by
  rw[<-hl,Lk.su h k,Aw,BO,List.getElem?_range hq];rfl
 obtain⟨h1,h2,h3⟩:=oV h k;refine⟨h1.trans (Eo fun q hq=>?_),h2,h3.trans ?_⟩
 ·unfold oP;rw[e q (BU.1 hq)]
 ·unfold o9;rw[List.flatMap_def,List.flatMap_def]
  congr 1
  refine Eo fun q hq=>?_;unfold Fm;rw[e q (BU.1 hq)]
end Tb
theorem Gl:Gm.gn false bI.rs bI.ns.length=[true]:=by
 rw[<-Gm.kX (Gm.fq.1 zY).iO];decide +kernel
theorem Vw:Gm.fst bI=[1]:=by
 unfold Gm.fst;rw[Gl];decide +kernel
def Gi:List (List Au.It):=[[(-1,0),(0,0),(1,0)],[(0,0),(0,1),(1,0)],[(-1,1)],[(0,2)]]
theorem Ur:Lk.fN bI Kk=Gi:=by
 unfold Lk.fN Kk Gi;rw[Bw,Bw,Bw,Bw,Dh];rw[(Au.kD (G:=bI) (l:=[(-1,0)]) (by decide +kernel) (by decide +kernel)),(Au.kD (G:=bI) (l:=[(0,1)]) (by decide +kernel) (by decide +kernel)),(Au.kD (G:=bI) (l:=[(-1,1)]) (by decide +kernel) (by decide +kernel)),(Au.kD (G:=bI) (l:=[(0,2)]) (by decide +kernel) (by decide +kernel))];decide +kernel
def I3:List (List (Int×Int)):=[[(1,2)],[(1,2)],[],[(0,2)]]
theorem UK:Lk.pS bI=I3 :=
 (Lk.uD Kg Kb (Gm.fq.1 zY) Ur Gl Vw 1 (S:=[[2,2,2],[2,2,2],[2],[2]]) (by decide +kernel) (by decide +kernel)).trans (by decide +kernel)
def IH:List (List Tb.Ce):=[[(1,1),(2,1)],[(1,1),(2,1)],[(0,0),(3,0)],[(0,0),(2,0)]]
def IN:List (List Int):=[[2],[3],[-1],[-1]]
theorem UT:Tb.gI bI=IH/\Tb.ic bI=IN/\Tb.np bI=[]:=by
 obtain⟨h1,h2,h3⟩:=Tb.yx Kg Kb UK;exact⟨h1.trans (by decide +kernel),h2.trans (by decide +kernel),h3.trans (by decide +kernel)⟩
def G9:List Int:=[37,108,101,102,116,32,39,43,39,32,37,37,32,101,32,58,32,101,32,39,43,39,32,101,32,124,32,39,110,39,32,59]
def bG:Gm.Gr:=⟨[⟨[39,43,39],1,1⟩,⟨[39,110,39],0,0⟩],[[101]],[⟨0,[-1,0,-1],0⟩,⟨0,[1],1⟩],0⟩
theorem Vs:Ge G9=some bG:=κ
theorem zX:Gm.right bG=true:=by decide +kernel
theorem J7:Gm.gn true bG.rs bG.ns.length=[true]:=by
 rw[<-Gm.kX (Gm.fq.1 zX).iO];decide +kernel
theorem U0:Gm.rc bG=[true]:=by
 have h:=Gm.fq.1 zX;rw[<-Gm.mS h.iO h.sin h.s0 h.s1,J7];decide +kernel
theorem N1:Gm.ni bG=0:=Gm.oO zX (by
 have aa:=Gm.fq.1 zX;have h0:=aa.s0;have h1:=aa.s1
 have e:Gm.tr (Gm.Gn true bG.rs bG.st)=(Gm.gn true bG.rs bG.ns.length).getD bG.st.toNat false:=by
  rw[Gm.mH _ _ _ _ ω,BH h0]
 rw[e,J7];decide)
theorem UQ {x:Gm.Rl} (hx:x∈bG.rs):Gm.use bG x=Gm.oJ [true] [true] x:=by
 rw[<-Gm.mo (Gm.fq.1 zX) hx,J7,U0]
theorem NS:Gm.iB bG=bG.rs:=by
 have e:Gm.iB bG=bG.rs.filter (Gm.oJ [true] [true]):=List.filter_congr fun x hx=>UQ hx;exact e.trans κ
theorem UC:Gm.ft bG=[0]:=by unfold Gm.ft;rw[NS];decide +kernel
theorem UY:Gm.reduce bG=bG:=by unfold Gm.reduce;rw[NS,UC];rfl
theorem Kf:Gm.ja bG=true:=by
 unfold Gm.ja Gm.nL;rw[Az N1,UY,N1,Gm.nO];rfl
def Kj:List (List Au.It):=[[(-1,0)],[(1,1)],[(-1,1),(0,1)],[(0,2)],[(0,1),(0,3)]]
def IZ:List (List (Int×Int)):=[[(1,1),(-1,2)],[],[(0,3)],[(1,1),(-1,4)],[(0,3)]]
theorem Ka:Au.ku bG=some (Kj,IZ):=Au.yi (by decide +kernel)
theorem Gp:Gm.gn false bG.rs bG.ns.length=[false]:=by
 rw[<-Gm.kX (Gm.fq.1 zX).iO];decide +kernel
theorem Vv:Gm.fst bG=[2]:=by
 unfold Gm.fst;rw[Gp];decide +kernel
def Gj:List (List Au.It):=[[(-1,0),(0,0),(1,0)],[(1,1)],[(-1,1),(0,1)],[(0,0),(0,2),(1,0)],[(0,1),(0,3)]]
theorem Uq:Lk.fN bG Kj=Gj:=by
 unfold Lk.fN Kj Gj;rw[Bw,Bw,Bw,Bw,Bw,Dh];rw[(Au.kD (G:=bG) (l:=[(-1,0)]) (by decide +kernel) (by decide +kernel)),(Au.kD (G:=bG) (l:=[(1,1)]) (by decide +kernel) (by decide +kernel)),(Au.kD (G:=bG) (l:=[(-1,1),(0,1)]) (by decide +kernel) (by decide +kernel)),(Au.kD (G:=bG) (l:=[(0,2)]) (by decide +kernel) (by decide +kernel)),(Au.kD (G:=bG) (l:=[(0,1),(0,3)]) (by decide +kernel) (by decide +kernel))];decide +kernel
def I4:List (List (Int×Int)):=[[],[(1,5)],[],[],[(0,5)]]
theorem UJ:Lk.pS bG=I4 :=
 (Lk.uD Kf Ka (Gm.fq.1 zX) Uq Gp Vv 3 (S:=[[4,5,5],[5],[4,5],[5,5,5],[5,5]]) (by decide +kernel) (by decide +kernel)).trans (by decide +kernel)
def IG:List (List Tb.Ce):=[[(0,0),(1,1),(0,0)],[(2,1),(0,0),(2,1)],[(1,3),(0,0),(3,0)],[(0,0),(1,1),(0,0)],[(2,0),(0,0),(2,0)]]
def IM:List (List Int):=[[2],[-1],[-1],[4],[-1]]
theorem US:Tb.gI bG=IG/\Tb.ic bG=IM/\Tb.np bG=[(4,0,1,0,-1)]:=by
 obtain⟨h1,h2,h3⟩:=Tb.yx Kf Ka UJ;exact⟨h1.trans (by decide +kernel),h2.trans (by decide +kernel),h3.trans (by decide +kernel)⟩
theorem Vm:Au.jo bG=0:=(Au.jy Kf Ka).1
theorem Vc:Tb.may bI IH IN=true:=by decide +kernel
theorem Ud:Tb.may bI IG IM=false:=by decide +kernel
theorem Up:Tb.settle bG 0 0=1:=by decide +kernel
theorem Tl:Tb.settle bG 1 0=4:=by decide +kernel
theorem Tk:Tb.settle bG 2 0=0:=by decide +kernel
theorem Jh:Tb.gI Gm.lU=[]/\Tb.ic Gm.lU=[]/\Tb.np Gm.lU=[]:=Tb.rH Gg
def bS (B g:Nat) (w:World):Type:={x:World // Below B w x/\x.heap[g]?=w.heap[g]?}
instance (B g:Nat) (w:World):Nonempty (bS B g w):=⟨⟨w,AB _ _,rfl⟩⟩
theorem Ux {ss:List nY} (h:cB w B A ss) (i:Nat) (hi:i<ss.length):∃g o A1 c1 A2 c2,A=some ⟨g,o,none⟩/\g<B/\w.cell? ⟨g,o+i*2,none⟩=some (.slice A1 ss[i].1.length c1)/\w.cell? ⟨g,o+i*2+1,none⟩=some (.slice A2 ss[i].2.length c2)/\iC 2 fM w B A1 ss[i].1/\iC 2 fM w B A2 ss[i].2:=by
 obtain⟨g,o,rfl,hg,hc⟩:=h ω;obtain⟨⟨A1,c1,k1,_,_,r1⟩,⟨A2,c2,k2,_,_,r2⟩⟩:=hc i hi;exact⟨g,o,A1,c1,A2,c2,rfl,hg,k1,k2,r1,r2⟩
theorem LS (w:World):(Instr.build 33 #[]).run prog w=.ok (.agg #[.slice none 0 0,.slice none 0 0]) w:=EC w 33 _ _ κ
theorem KS (v:Value) (G:Gm.Gr) (B:Nat) (w:World) (hg:aT w B v G) (hf:Gm.Fit G) (hB:B<=w.heap.size) :
  Calls prog 11 #[v] w (FY G w):=by
 have am:=aA (fun y (h:β w y)=>KP v G B y (hg.below h hB) hf (Ah hB h.size));have bi:=aA (fun y (h:β w y)=>Tz v G B y (hg.below h hB) hf (Ah hB h.size));have a1:=aA (fun(x:World) (h:β w x)=>hg.below h hB);have bX:=aA hB;obtain⟨AT,cT,AN,cN,AR,cR,rfl,_⟩:=hg;obtain⟨w1,ao⟩:∃y,y=(w.alloc (.cells #[.slice AT G.ts.length cT,.slice AN G.ns.length cN,.slice AR G.rs.length cR,.int .i64 G.st] 26)).alloc (.cells #[.slice none 0 0,.slice none 0 0] 33):=⟨_,rfl⟩
 have aa:Hid (bA 26 33 w #[.slice AT G.ts.length cT,.slice AN G.ns.length cN,.slice AR G.rs.length cR,.int .i64 G.st] #[.slice none 0 0,.slice none 0 0] w1):=aA (by rw[ao];exact bA.start _ _ _ _ _);have HS:=aA (am.o w1 aa.o.below);have x0:=aa.o.c1 0 _ rfl;have x1:=aa.o.c1 1 _ rfl;have x2:=aa.o.c1 2 _ rfl;have x3:=aa.o.c1 3 _ rfl;clear hf hB;cases hb:Gm.ja G with
 | false =>
  have HE:=aA (Ca (Au.lK hb) (Tb.rH hb));unfold sN at HS;rw[HE.o.1.1,HE.o.1.2]at HS;have dw:=LS;clear hb bi a1
  go_enter func11,ntmps11
  go_upto_region 1 with fail
  rw[<-ao];clear ao;go_wp2_with fail
  refine HS.o.mono ?_;rintro _ w2 ⟨Aa,ca,rfl,_,_,_,ah⟩;have ab:=aA (aa.o.on ah);clear ah x0 x1 x2 x3;generalize ([]:List nY).length=nz at *;have y0:=ab.o.c2 0 _ rfl;have y1:=ab.o.c2 1 _ rfl;have b2:w2.heap[w.heap.size+1]?=some (.cells #[.slice none 0 0,.slice none 0 0] 33 (0,0)):=ab.o.b2;have f0:=AM _ _ 0 _ _ b2;have f1:=AM _ _ 1 _ _ b2;have ly:=(Ad.1 b2).1;have h2:=Ba _ _ 1 _ _ (.slice none 0 0) (Ba w2 _ 0 _ _ (.slice none 0 0) b2);have a9:=aA ((ab.o.below.setCell (p:=⟨w.heap.size+1,0,none⟩) σ (.slice none 0 0)).setCell (p:=⟨w.heap.size+1,1,none⟩) σ (.slice none 0 0));obtain⟨wf,ap⟩:∃y,y=(w2.setCell ⟨w.heap.size+1,0,none⟩ (.slice none 0 0)).setCell ⟨w.heap.size+1,1,none⟩ (.slice none 0 0):=⟨_,rfl⟩
  rw[<-ap]at h2 a9;go_wp2;rw[<-ap];clear ap;have j0:=aQ h2;have j1:=aU h2;have lf:=(Ad.1 h2).1;refine B3 (v:=.tuple #[.agg #[.slice none 0 0,.slice none 0 0],.slice none 0 0,.int .i64 1]) (by simp[results,results11,go_sem,j0,j1]) rfl ?_;exact FY.nil HE.o.1.1 HE.o.2 a9.o
 | true =>
  cases hk:Au.ku G with
  | none =>
   have HE:=aA (Ca (Au.jO hb hk) (Tb.qf hb hk));unfold sN at HS;rw[HE.o.1.1,HE.o.1.2]at HS;have dw:=LS;clear hb hk bi a1
   go_enter func11,ntmps11
   go_upto_region 1 with fail
   rw[<-ao];clear ao;go_wp2_with fail
   refine HS.o.mono ?_;rintro _ w2 ⟨Aa,ca,rfl,_,_,_,ah⟩;have ab:=aA (aa.o.on ah);clear ah x0 x1 x2 x3;generalize ([]:List nY).length=nz at *;have y0:=ab.o.c2 0 _ rfl;have y1:=ab.o.c2 1 _ rfl;have b2:w2.heap[w.heap.size+1]?=some (.cells #[.slice none 0 0,.slice none 0 0] 33 (0,0)):=ab.o.b2;have f0:=AM _ _ 0 _ _ b2;have f1:=AM _ _ 1 _ _ b2;have ly:=(Ad.1 b2).1;have h2:=Ba _ _ 1 _ _ (.slice none 0 0) (Ba w2 _ 0 _ _ (.slice none 0 0) b2);have a9:=aA ((ab.o.below.setCell (p:=⟨w.heap.size+1,0,none⟩) σ (.slice none 0 0)).setCell (p:=⟨w.heap.size+1,1,none⟩) σ (.slice none 0 0));obtain⟨wf,ap⟩:∃y,y=(w2.setCell ⟨w.heap.size+1,0,none⟩ (.slice none 0 0)).setCell ⟨w.heap.size+1,1,none⟩ (.slice none 0 0):=⟨_,rfl⟩
   rw[<-ap]at h2 a9;go_wp2;rw[<-ap];clear ap;have j0:=aQ h2;have j1:=aU h2;have lf:=(Ad.1 h2).1;refine B3 (v:=.tuple #[.agg #[.slice none 0 0,.slice none 0 0],.slice none 0 0,.int .i64 5]) (by simp[results,results11,go_sem,j0,j1]) rfl ?_;exact FY.nil HE.o.1.1 HE.o.2 a9.o
  | some p =>
   obtain⟨K,E⟩:=p;have HE:=aA (Ca (Au.jy hb hk) (Ca (Lk.su hb hk) (Tb.oV hb hk)));obtain⟨hi,hE,cq⟩:=Au.jx hk;have ac:=Gm.fq.1 (Gm.gx hb);have I:=((Gm.fK G.ts).1 ac.t).1;have aq:=(Gm.fF G).1 ac.n;have hz:(K.zip E).length=K.length:=by rw[EB,hE,Nat.min_self]
   have dx:=aA (fun q (hq:q<E.length)=>Au.sU hi hq);have dy:=aA (fun k (hk:k∈K)=>Au.lM ac ac.kL hi hk);have dz:=aA (fun q (h:q<E.length)=>Au.pD I ω hi h);have cr:=aA (fun i (hi:i<G.rs.length)=>Gm.vr (ac.rr _ (AD hi)));have dA:=aA (fun q=>Ah (Lk.sG G K E q) ac.kL);have dB:=aA (fun q x (h:x∈Lk.gh G K E q)=>Lk.vq (K:=K) (E:=E) (q:=q) I ac.kL h);have dC:=aA (fun n (h:n<=300)=>(show(Tb.o9 G K E n).length<=300000 from Ah (Tb.wW G K E I ac.kL n) ω));have ar:=aA I;have au:=aA (Ca aq.1 aq.2.1);have HZ:=aA hz;have cu:=aA hE;have bj:=aA cq
   have HL:=aA (fun y (h:β w y)=>(show Calls prog 28 _ y (fun e w'=>∃A c,e=.returned (.tuple #[.slice A K.length c,.int .i64 0])/\mb 2 pa w' w'.heap.size A ((List.range K.length).map (Lk.gh G K E))/\β y w') from(bi.o y h).mono fun e w' hm=>by
    obtain⟨A,c,h1,_,_,h2,h3⟩:=hm;rw[HE.o.2.1]at h1 h2;rw[HE.o.1.1,Bh,DV]at h1;exact⟨A,c,h1,h2,h3⟩))
   unfold sN at HS;rw[HE.o.1.1,HE.o.1.2,hz]at HS;have dD:=fun w=>(EC w 77 _ _ κ:(Instr.build 77 #[(0,.agg #[.slice AT G.ts.length cT,.slice AN G.ns.length cN,.slice AR G.rs.length cR,.int .i64 G.st])]).run prog w=.ok (.agg (wB (.slice AT G.ts.length cT) (.slice AN G.ns.length cN) (.slice AR G.rs.length cR) (.int .i64 G.st) (.slice none 0 0) (.slice none 0 0) (.slice none 0 0))) w)
   clear hb hk hi hE ac I aq hz bi cq
   go_enter func11,ntmps11
   go_upto_region 1 with fail
   rw[<-ao];clear ao;go_wp2_with fail
   refine HS.o.mono ?_;rintro _ w2 ⟨Aa,ca,rfl,_,_,cv,ah⟩;have av:=aA (aa.o.on ah);have cw:=aA cv;have cx:=aA (HL.o w2 av.o.below);clear ah cv x0 x1 x2 x3 HS aa HL;have x0:=av.o.c1 0 _ rfl;have x1:=av.o.c1 1 _ rfl;have x2:=av.o.c1 2 _ rfl;have x3:=av.o.c1 3 _ rfl;go_upto_region 4 with fail
   go_wp2_with fail
   refine cx.o.mono ?_;rintro _ w3 ⟨AL,cL,rfl,aw,bk⟩;have ax:=aA (av.o.on bk);have b0:=aA ((cw.o.below bk (Af _)).more bk.size);have bl:=aA aw;clear bk aw x0 x1 x2 x3 av cw cx;have x0:=ax.o.c1 0 _ rfl;have x1:=ax.o.c1 1 _ rfl;have x2:=ax.o.c1 2 _ rfl;have x3:=ax.o.c1 3 _ rfl;obtain⟨R,hR⟩:∃R,R=w3.heap.size:=⟨_,rfl⟩
   obtain⟨w4,bm⟩:=χ (w3.alloc (.cells (wB (.slice AT G.ts.length cT) (.slice AN G.ns.length cN) (.slice AR G.rs.length cR) (.int .i64 G.st) (.slice none 0 0) (.slice none 0 0) (.slice none 0 0)) 77))
   have bn:Hid (Below R w3 w4):=aA (by rw[bm,hR];exact(AB _ _).alloc (Af _) _);have a2:Hid (iZ w4 R R R (.slice AT G.ts.length cT) (.slice AN G.ns.length cN) (.slice AR G.rs.length cR) (.int .i64 G.st) [] [] []):=aA (by rw[bm,hR];exact iZ.start w3 _ _ _ _);have ba:Hid (bA 26 33 w #[.slice AT G.ts.length cT,.slice AN G.ns.length cN,.slice AR G.rs.length cR,.int .i64 G.st] #[.slice none 0 0,.slice none 0 0] w4):=aA (ax.o.on (by show Go.RowKit.Below w3.heap.size w3 w4;rw[<-hR];exact bn.o));have ad:Hid (w.heap.size+2<=R):=aA (by rw[hR];exact ax.o.size);go_upto_region 6 with fail
   rw[<-bm,<-hR];rw[<-hR]at b0 bl;clear bm hR x0 x1 x2 x3 dD;obtain⟨n,hn⟩:∃n,K.length=n:=⟨_,rfl⟩
   rw[hn]at bl cu bj HZ ⊢;have HN:=aA hn;have cy:=aA (b0.o.below bn.o (Af _));have cz:=aA (bl.o.below bn.o (Af _));have dS:(n:Int)<=300:=by have:=bj.o;omega
   clear hn b0 bl ax bn;have a2:Hid (iZ w4 R R w4.heap.size (.slice AT G.ts.length cT) (.slice AN G.ns.length cN) (.slice AR G.rs.length cR) (.int .i64 G.st) [] [] (Tb.o9 G K E 0)):=aA (a2.o.uG a2.o.hN (Af _));have cE:=aA (fun(x:World) (hx:Below R w4 x) (vs:Value) (k:List Au.It) (ed:List (Int×Int)) (hs:yh x R vs k ed) (hk:k.length<=287) (he:ed.length<=64) (V:(ed.map (·.1)).Nodup/\∀e∈ed,e.1<G.ts.length/\-1-e.1<G.ns.length)=>OV _ G R vs k ed x ((a1.o x (ba.o.below.trans (hx.mono (by have:=ad.o;omega)))).more (by have:=bX.o;have:=ad.o;omega)) (by have:=hx.size;have:=a2.o.lt;omega) hs ar.o ω ω V.1 (fun e h=>(V.2 e h).1));have cI:=aA (fun(x:World) (hx:Below R w4 x) (vs:Value) (k:List Au.It) (ed:List (Int×Int)) (hs:yh x R vs k ed) (he:ed.length<=64) (V:(ed.map (·.1)).Nodup/\∀e∈ed,e.1<G.ts.length/\-1-e.1<G.ns.length)=>Pp _ G R vs k ed x ((a1.o x (ba.o.below.trans (hx.mono (by have:=ad.o;omega)))).more (by have:=bX.o;have:=ad.o;omega)) (by have:=hx.size;have:=a2.o.lt;omega) hs au.o.1 au.o.2 ω V.1 (fun e h=>⟨(V.2 e h).2,by have:=(V.2 e h).1;have:=ar.o;omega⟩));have cJ:=aA (fun(x:World) (hx:Below R w4 x) (N:Nat) (rows:List (RW (Int×Int))) (gts:List (RW Int)) (cs:List C5) (q gs:Nat) (f:Int->Tb.Ce) (l:List (Int×Int)) (AL:Option Addr) (cL:Nat) (h:iZ x R R N (.slice AT G.ts.length cT) (.slice AN G.ns.length cN) (.slice AR G.rs.length cR) (.int .i64 G.st) rows gts cs) (hs:ia 63 fM x gs (Tb.fQ (G.ts.length+1) f)) (hl:iC 2 pa x R AL l) (dE:∀x∈l,II x/\0<=x.1/\x.1<G.rs.length) (dF:l.length<=40) (dT:cs.length<=300000) (aw:rows.length<=1000)=>OH x R R N R R G _ _ _ _ rows gts cs q gs f l AL cL h ((a1.o x (ba.o.below.trans (hx.mono (by have:=ad.o;omega)))).more (by have:=bX.o;have:=ad.o;omega)) (Af _) hs hl (Af _) dE dF ar.o ω aw cr.o);clear a1 cr;go_wp2;go_loopw [30] (fun vi wr=>∃(i:Nat) (rows:List (RW (Int×Int))) (gts:List (RW Int)),i<=n/\vi=.int .i64 i/\Hid (rows.map (·.1)=(List.range i).map (Tb.oP G K E))/\Hid (gts.map (·.1)=(List.range i).map (Tb.om G E))/\Hid (iZ wr R R wr.heap.size (.slice AT G.ts.length cT) (.slice AN G.ns.length cN) (.slice AR G.rs.length cR) (.int .i64 G.st) rows gts (Tb.o9 G K E i))/\Hid (Below R w4 wr)) (fun vi _=>n-(intOf vi).toNat)
   case atStart=>exact⟨0,[],[],Bb _,rfl,aA rfl,aA rfl,a2,aA (AB _ _)⟩
   case round =>
    obtain⟨i,rows,gts,hi,rfl,b1,b3,HT,HW⟩:=hrel;rename World=>wr;have aw:rows.length=i:=by have:=congrArg List.length b1.o;simpa using this
    have cK:gts.length=i:=by have:=congrArg List.length b3.o;simpa using this
    by_cases bo:i<n
    ·have b4:i<K.length:=by have:=HN.o;omega
     have bp:i<E.length:=by have:=cu.o;omega
     have cM:i<(K.zip E).length:=by have:=HZ.o;omega
     obtain⟨gA,oA,A1,c1,A2,c2,rfl,cO,k0,k1,r1,r2⟩:=Ux cy.o i cM;have ez:(K.zip E)[i]=(K[i],E[i]):=Fe;rw[ez]at k0 k1 r1 r2;simp only at k0 k1 r1 r2;obtain⟨gL,oL,rfl,cP,cQ⟩:=cz.o (by simp;omega);obtain⟨A3,c3,m0,-,-,r3⟩:=cQ i (by simpa using bo);simp only[Cg,DP]at m0 r3;have V:=dx.o i bp;have b5:=dz.o i bp;have cS:=dy.o _ (AD b4);have b6:K.getD i []=K[i]:=by rw[Aw,AH b4];rfl
     have ae:E.getD i []=E[i]:=by rw[Aw,AH bp];rfl
     have cU:Hid (Tb.oP G K E i=Tb.fQ (G.ts.length+1) fun t=>(Tb.act G (Tb.shift G K[i] E[i]) (Lk.gh G K E i) t).1):=aA (by unfold Tb.oP;rw[b6,ae]);have dG:Hid (Tb.om G E i=Tb.fQ G.ns.length (Tb.pH E[i])):=aA (by unfold Tb.om;rw[ae]);have cV:Hid (Tb.o9 G K E (i+1)=Tb.o9 G K E i++Tb.rW i G (Tb.shift G K[i] E[i]) (Lk.gh G K E i) (G.ts.length+1)):=aA (by rw[Tb.pw];unfold Tb.Fm;rw[b6,ae]);have cW:=dA.o i;have cX:=dB.o i;have cY:=dC.o i (by have:=bj.o;omega);have cZ:=aA bo;have bb:Hid (rows.length<=1000/\gts.length<=1000000):=aA (by have:=bj.o;omega);have dU:(i:Int)<(n:Int):=ω
     clear b6 ae ez cQ cM hi aw cK;generalize K[i]=k at *;generalize E[i]=ed at *;generalize Lk.gh G K E i=l at *;generalize Tb.o9 G K E i=cs at *;clear b4 bp bo;have k0:=(HW.o.cell (p:=⟨gA,oA+i*2,none⟩) cO).trans k0;have k1:=(HW.o.cell (p:=⟨gA,oA+i*2+1,none⟩) cO).trans k1;have lgA:gA<wr.heap.size:=Bl k0;obtain⟨wi,bq⟩:=χ (wr.alloc (.cells #[.slice A1 k.length c1,.slice A2 ed.length c2] 59))
     have br:Hid (β wr wi):=aA (by rw[bq];exact(AB _ _).alloc (Af _) _);have a3:Hid (wi.heap[wr.heap.size]?=some (.cells #[.slice A1 k.length c1,.slice A2 ed.length c2] 59 (0,0))):=aA (by rw[bq];exact AI wr _);have af:Hid (R<wr.heap.size):=aA HT.o.lt;have c4:=aA (HT.o.below br.o);have ai:=aA (HW.o.trans (br.o.mono (Cx af.o)));have aj:=aA (fun(y:World) (h:Below R w4 y)=>(show bA 26 33 w #[.slice AT G.ts.length cT,.slice AN G.ns.length cN,.slice AR G.rs.length cR,.int .i64 G.st] #[.slice none 0 0,.slice none 0 0] y from Fg ba.o (h.mono ad.o)));have b7:=aA (fun(y:World) (h:Below R w4 y)=>(show yh y R (.agg #[.slice A1 k.length c1,.slice A2 ed.length c2]) k ed from⟨A1,c1,A2,c2,rfl,r1.below h (Af _),r2.below h (Af _)⟩));have c6:=aA (fun(y:World) (h:Below R w4 y)=>(h.cell (p:=⟨gL,oL+i,none⟩) cP).trans m0);have c7:=aA (fun(y:World) (h:Below R w4 y)=>cE.o y h _ k ed (b7.o y h) cS b5 V);have c8:=aA (fun(y:World) (h:Below R w4 y)=>cI.o y h _ k ed (b7.o y h) b5 V);have c9:=aA (fun(y:World) (h:Below R w4 y) (gs:Nat) (ht:iZ y R R wr.heap.size (.slice AT G.ts.length cT) (.slice AN G.ns.length cN) (.slice AR G.rs.length cR) (.int .i64 G.st) rows gts cs) (hs:ia 63 fM y gs (Tb.fQ (G.ts.length+1) (Tb.shift G k ed)))=>cJ.o y h wr.heap.size rows gts cs i gs (Tb.shift G k ed) l A3 c3 ht hs (r3.below h (Af _)) cX cW cY bb.o.1);go_upto_region 9 with fail
     rw[<-bq];clear bq k0 k1 lgA HT HW cE cI cJ cS b5 V cW cX cY r1 r2 r3 m0 b7;have lgL:gL<R:=cP;have q0:=fun y:bS R wr.heap.size wi=>(aj.o y.1 (ai.o.trans y.2.1)).c1 0 _ rfl;have q1:=fun y:bS R wr.heap.size wi=>(aj.o y.1 (ai.o.trans y.2.1)).c1 1 _ rfl;have q2:=fun y:bS R wr.heap.size wi=>(aj.o y.1 (ai.o.trans y.2.1)).c1 2 _ rfl;have q3:=fun y:bS R wr.heap.size wi=>(aj.o y.1 (ai.o.trans y.2.1)).c1 3 _ rfl;have p0:=fun y:bS R wr.heap.size wi=>aQ (y.2.2.trans a3.o);have p1:=fun y:bS R wr.heap.size wi=>aU (y.2.2.trans a3.o);have m0:=fun y:bS R wr.heap.size wi=>c6.o y.1 (ai.o.trans y.2.1);have HD:Hid (β wi wi.drew):=aA (aB (AB _ _) 1);have X:Hid (R<=wi.heap.size/\wr.heap.size<wi.heap.size):=aA ⟨by have:=br.o.size;have:=af.o;omega,(Ad.1 a3.o).1⟩;have ak:Hid (∃y:bS R wr.heap.size wi,wi.drew=y.1):=aA ⟨⟨wi.drew,HD.o.mono X.o.1,rfl⟩,rfl⟩;refine CalmN.fk (fun x=>∃y:bS R wr.heap.size wi,x=y.1) (.one [0,1,2,4,5,6,7] 3 (.one [] 8 (.fin []))) ak.o ?_;simp only[CalmN.fS,CalmN.fu,CalmN.fo,Aq,Ai,Am];repeat (go_big_quiet_step (fail))
     refine Ap ?_;clear q0 q1 q2 q3 p0 p1 m0 c6;generalize wi.drew=wd at *;have Z:=aA (c4.o.below HD.o);have bs:=aA (ai.o.trans (HD.o.mono X.o.1));have da:=aA (c7.o wd bs.o);intro KK b;rw[Az ε];go_wp2_with fail
     refine da.o.mono ?_;rintro _ w6 ⟨g6,rfl,_,db,b8⟩;have F:=aA (HD.o.trans (b8.mono HD.o.size));have dc:=aA (Z.o.below b8);have b9:=aA (ai.o.trans (F.o.mono X.o.1));have H:Hid (∃y:bS R wr.heap.size wi,w6=y.1):=aA ⟨⟨w6,F.o.mono X.o.1,F.o.block _ X.o.2⟩,rfl⟩;have de:=aA (c9.o w6 b9.o g6 dc.o db);clear db b8 da Z bs HD c9 c7 dc;go_wp2_with fail
     refine b _ _ H.o _ ι H.o ?_;clear b;refine Ap ?_;intro KK b;rw[Az ε];go_wp2_with fail
     refine de.o.mono ?_;rintro _ w7 ⟨rfl,⟨r,df,cb⟩,cc,dg⟩;rw[<-cV.o]at cb;have dh:=aA cb;have a4:=aA (b9.o.trans cc);have dH:=aA (df.trans cU.o.symm);have ay:Hid (w7.heap[wr.heap.size]?=some (.cells #[.slice A1 k.length c1,.slice A2 ed.length c2] 59 (0,0))):=aA (dg.fp _ _ _ ((F.o.block _ X.o.2).trans a3.o) (by have:=af.o;omega) δ δ δ);have az:Hid (∃y:bS R wr.heap.size wi,w7=y.1):=aA ⟨⟨w7,(F.o.mono X.o.1).trans cc,ay.o.trans a3.o.symm⟩,rfl⟩;clear df cb cc dg de H b9 F cV cU;go_wp2_with fail
     refine b _ _ az.o _ ι az.o ?_;clear b az;refine Ap ?_;have s:Hid (R<=w7.heap.size/\wr.heap.size<w7.heap.size):=aA ⟨Cx dh.o.lt,(Ad.1 ay.o).1⟩;clear c4 ai br a3 ak X;go_upto_region 10 with fail
     have HD:Hid (β w7 w7.drew):=aA (aB (AB _ _) 1);have q0:=fun y:bS R wr.heap.size w7=>(aj.o y.1 (a4.o.trans y.2.1)).c1 0 _ rfl;have q1:=fun y:bS R wr.heap.size w7=>(aj.o y.1 (a4.o.trans y.2.1)).c1 1 _ rfl;have q2:=fun y:bS R wr.heap.size w7=>(aj.o y.1 (a4.o.trans y.2.1)).c1 2 _ rfl;have q3:=fun y:bS R wr.heap.size w7=>(aj.o y.1 (a4.o.trans y.2.1)).c1 3 _ rfl;have p0:=fun y:bS R wr.heap.size w7=>aQ (y.2.2.trans ay.o);have p1:=fun y:bS R wr.heap.size w7=>aU (y.2.2.trans ay.o);have a0:Hid (∀y:World,Below R w7 y->y.heap[wr.heap.size]?=w7.heap[wr.heap.size]?->∃z:bS R wr.heap.size w7,y=z.1):=aA (fun y h e=>⟨⟨y,h,e⟩,rfl⟩);have ak:=aA (a0.o w7.drew (HD.o.mono s.o.1) rfl);refine CalmN.fk (fun x=>∃y:bS R wr.heap.size w7,x=y.1) (.two [0,1,3,4] 2 (.one [] 5 (.one [] 6 (.one [] 7 (.one [8,9] 10 (.fin []))))) 5 (.two [] 2 (.one [] 6 (.one [] 7 (.one [8,9] 10 (.fin [])))) 6 (.one [] 2 (.one [] 7 (.one [8,9] 10 (.fin [])))))) ak.o ?_;simp only[CalmN.fS,CalmN.fu,CalmN.fo,Aq,Ai,Am];repeat (go_big_quiet_step (fail))
     clear q0 q1 q2 q3 p0 p1;generalize w7.drew=wd at *;have Z:=aA (dh.o.below HD.o);have bs:=aA (a4.o.trans (HD.o.mono s.o.1));have bu:=aA (c8.o wd bs.o);obtain⟨⟨vA,vG,vC,hb,hA,hG,hC⟩,bv,bw,di,dj⟩:=Z.o;obtain⟨AG,cG,rfl,_,_,_⟩:=hG.form tE;have bx:=aA hb;have bz:=aA hG;have c5d:=vU hb;have lRd:=(Ad.1 hb).1;clear hA hG hC bv bw di dj hb c8;refine Ap ⟨?_,?_⟩
     case' refine_1 =>
      intro KK b;rw[Az ε];go_wp2_with fail
      refine b _ _ ak.o _ ι ak.o ?_;clear b;refine Ap ?_;intro KK b;rw[Az ε];go_wp2_with fail
      refine bu.o.mono ?_;rintro _ w9 ⟨g9,rfl,J,bc,M⟩;have ag:=aA (HD.o.trans (M.mono HD.o.size));have dk:=aA (Z.o.below M);have B9:=aA (aC M bx.o);have cd:=aA (bz.o.below M (Af _));have D:=aA (a0.o w9 (ag.o.mono s.o.1) (ag.o.block _ s.o.2));have ce:=aA bc;have dl:=aA (Ah (Cx Z.o.lt) J);have a5:Hid (Below w9.heap.size w9 (w9.alloc (.cells #[.slice (some ⟨g9,0,none⟩) G.ns.length G.ns.length] 51))):=aA ((AB _ _).alloc (Af _) _);have al:=aA (ag.o.trans (a5.o.mono ag.o.size));have C:=aA (a0.o _ (al.o.mono s.o.1) (al.o.block _ s.o.2));have BA:=aA (aC a5.o B9.o);clear J bc M Z bx bz HD bu c5d lRd;go_wp2_with fail
      refine b _ _ D.o _ ι D.o ?_;clear b;refine Ap ?_;intro KK b;rw[Az ε];go_wp2_with fail
      refine b _ _ C.o _ ι C.o ?_;clear b;refine Ap ?_
     case' refine_2 =>
      intro KK b;rw[Az ε];go_wp2_with fail
      refine bu.o.mono ?_;rintro _ w9 ⟨g9,rfl,J,bc,M⟩;have ag:=aA (HD.o.trans (M.mono HD.o.size));have dk:=aA (Z.o.below M);have B9:=aA (aC M bx.o);have cd:=aA (bz.o.below M (Af _));have D:=aA (a0.o w9 (ag.o.mono s.o.1) (ag.o.block _ s.o.2));have ce:=aA bc;have dl:=aA (Ah (Cx Z.o.lt) J);have a5:Hid (Below w9.heap.size w9 (w9.alloc (.cells #[.slice (some ⟨g9,0,none⟩) G.ns.length G.ns.length] 51))):=aA ((AB _ _).alloc (Af _) _);have al:=aA (ag.o.trans (a5.o.mono ag.o.size));have C:=aA (a0.o _ (al.o.mono s.o.1) (al.o.block _ s.o.2));have BA:=aA (aC a5.o B9.o);clear J bc M Z bx bz HD bu c5d lRd;go_wp2_with fail
      refine b _ _ D.o _ ι D.o ?_;clear b;refine Ap ⟨?_,?_⟩
      case' refine_1 =>
       have c59:=vU B9.o;have l59:=(Ad.1 B9.o).1;intro KK b;rw[Az ε];go_wp2_with fail
       refine b _ _ D.o _ ι D.o ?_;clear b;clear c59 l59;refine Ap ?_;intro KK b;rw[Az ε];go_wp2_with fail
       refine b _ _ C.o _ ι C.o ?_;clear b;refine Ap ?_
      case' refine_2 =>
       intro KK b;rw[Az ε];go_wp2_with fail
       refine b _ _ C.o _ ι C.o ?_;clear b;refine Ap ?_;have c5a:=vU BA.o;have l5a:=(Ad.1 BA.o).1;intro KK b;rw[Az ε];go_wp2_with fail
       refine b _ _ C.o _ ι C.o ?_;clear b;clear c5a l5a;refine Ap ?_
     all_goals
      intro KK b;rw[Az ε];have bD:=aA (cd.o.below a5.o (Af _));obtain⟨x,hx⟩:∃x:RW Int,x=(Tb.fQ G.ns.length (Tb.pH ed),some ⟨g9,0,none⟩,G.ns.length):=⟨_,rfl⟩
      have cf:x.1=Tb.fQ G.ns.length (Tb.pH ed):=by rw[hx]
      have dm:x.1.length=G.ns.length:=by rw[cf,Tb.fW]
      have dn:Hid (bU 3 1 xg w9 R w9.heap.size x):=aA (by
       rw[hx];exact⟨by rw[Tb.fW];exact Af _,by have:=au.o;simp only;omega,ce.o.q.ve TI dl.o ce.o.lt⟩)
      have bd:Hid (∀j u,(jl x)[j]?=some u->(w9.alloc (.cells #[.slice (some ⟨g9,0,none⟩) G.ns.length G.ns.length] 51)).cell? ⟨w9.heap.size,j,none⟩=some u):=aA (Ll x _ dm _ _ _ (by rw[hx];exact AI w9 (.cells #[.slice (some ⟨g9,0,none⟩) G.ns.length G.ns.length] 51)));have dI:=aA (cf.trans dG.o.symm);have cg:Hid (R<=(w9.alloc (.cells #[.slice (some ⟨g9,0,none⟩) G.ns.length G.ns.length] 51)).heap.size):=aA (Ah s.o.1 al.o.size);clear hx cf dm;refine J2 (f:=jl) (.tmp 46) (.tmp 50) _ rfl underlying31 _ 24 TF δ δ δ tE MT R _ gts rfl bD.o _ _ x rfl bd.o bb.o.2 cg.o ?_;intro v5 w5 ch bM;obtain⟨A5,c5,rfl,_,_,_⟩:=aK.form ch tE;have a6:=aA (dk.o.Gv B9.o cd.o dn.o ch bM);have bT:Below R w7 w5:=(al.o.mono s.o.1).grown bM cg.o (fun k e=>(Br bD.o k e).1);have ci:=aJ bD.o bM ((al.o.block _ s.o.2).trans ay.o) fun cur=>aH δ;have bf:=aA (a0.o w5 bT (ci.trans ay.o.symm));have H:=aA (a0.o (w5.setCell ⟨R,5,none⟩ (.slice A5 (gts++[x]).length c5)) (bT.setCell (Af _) _) ((AQ w5 ⟨R,5,none⟩ _ _ (by have:=af.o;simp only;omega)).trans (ci.trans ay.o.symm)));have dJ:=aA (a4.o.trans (bT.setCell (p:=⟨R,5,none⟩) (Af _) (.slice A5 (gts++[x]).length c5)));have dK:=aA (a6.o.1.uG a6.o.2.1.size (Af _));have c5R:=vU a6.o.2.2.2;have f5R:=AM _ R 5 _ _ a6.o.2.2.2;have l5R:=(Ad.1 a6.o.2.2.2).1;have dL:Hid ((rows++[r]).map (·.1)=(List.range (i+1)).map (Tb.oP G K E)):=aA (by rw[Bi,b1.o,CM,Bi,Dv,Dv,dH.o]);have dM:Hid ((gts++[x]).map (·.1)=(List.range (i+1)).map (Tb.om G E)):=aA (by rw[Bi,b3.o,CM,Bi,Dv,Dv,dI.o]);clear ch bM bT ci a6 bD dn bd cg;refine b _ _ bf.o _ ι bf.o ?_;clear b;generalize (gts++[x]).length=ln at *
      go_frame
      repeat (go_big_quiet_step (fail))
      refine Ap ?_;intro KK b;rw[Az ε];go_wp2_with fail
      refine b _ _ H.o _ ι H.o ?_;clear b c5R f5R l5R;refine Ap ?_;generalize w5.setCell ⟨R,5,none⟩ (.slice A5 ln c5)=wk at *;go_wp2;go_roundw
      case rel=>exact⟨i+1,rows++[r],gts++[x],cZ.o,ν,dL,dM,dK,dJ⟩
      case measure=>simp[intOf];have:=cZ.o;omega
    ·obtain rfl:i=n:=ω
     obtain⟨⟨vA,vG,vC,hb,hA,hG,hC⟩,bv,bw,di,dj⟩:=HT.o;obtain⟨AA,cA,rfl,dp,cj,_⟩:=hA.form tE;obtain⟨AG,cG,rfl,dq,ck,_⟩:=hG.form tE;obtain⟨AC,cC,rfl,dr,cl,_⟩:=hC.form yy;have O:Tb.gI G=rows.map (·.1):=by rw[HE.o.2.2.1,HN.o];exact b1.o.symm
     have U:Tb.ic G=gts.map (·.1):=by rw[HE.o.2.2.2.1,HN.o];exact b3.o.symm
     have bg:Tb.np G=Tb.o9 G K E i:=by rw[HE.o.2.2.2.2,HN.o]
     have dN:=aA O;have dO:=aA U;have dV:=aA bg;have cm:=aA hb;have dP:=aA HE.o.1.1;generalize Tb.o9 G K E i=cs at *;have ds:Hid (bA 26 33 w #[.slice AT G.ts.length cT,.slice AN G.ns.length cN,.slice AR G.rs.length cR,.int .i64 G.st] #[.slice none 0 0,.slice none 0 0] wr):=aA (Fg ba.o (HW.o.mono ad.o));have dt:Hid (w.heap.size+1≠R):=aA (by have:=ad.o;omega);have cn:=aA ds.o.b2;have h1:=Ba _ _ 0 _ _ (.slice AA rows.length cA) cn.o;have h2:=Ba _ _ 1 _ _ (.slice AG gts.length cG) h1;have du:wr.heap.size<=((wr.drew.setCell ⟨w.heap.size+1,0,none⟩ (.slice AA rows.length cA)).setCell ⟨w.heap.size+1,1,none⟩ (.slice AG gts.length cG)).heap.size:=(fun y:World=>(by simp:y.heap.size<=((y.setCell ⟨w.heap.size+1,0,none⟩ (.slice AA rows.length cA)).setCell ⟨w.heap.size+1,1,none⟩ (.slice AG gts.length cG)).heap.size)) wr.drew;have am:Hid (wr.drew.heap[w.heap.size+1]?=some (.cells #[.slice none 0 0,.slice none 0 0] 33 (0,0))):=aA cn.o
     have dQ:Hid (∀(g:Nat) (cur:Array Value) (T:TypeId),T≠33->wr.heap[g]?=some (.cells cur T (0,0))->((wr.drew.setCell ⟨w.heap.size+1,0,none⟩ (.slice AA rows.length cA)).setCell ⟨w.heap.size+1,1,none⟩ (.slice AG gts.length cG)).heap[g]?=some (.cells cur T (0,0))):=aA (fun g cur T hT hc=>by
      have dv:g≠w.heap.size+1:=fun e=>by
       rw[e,cn.o]at hc;injection hc with hc;injection hc with _ hc _;exact hT hc.symm
      exact((AQ _ ⟨w.heap.size+1,1,none⟩ _ g dv).trans (AQ wr.drew ⟨w.heap.size+1,0,none⟩ _ g dv)).trans hc)
     have dR:Hid (Below w.heap.size w ((wr.drew.setCell ⟨w.heap.size+1,0,none⟩ (.slice AA rows.length cA)).setCell ⟨w.heap.size+1,1,none⟩ (.slice AG gts.length cG))):=aA (((aB ds.o.below 1).setCell (p:=⟨w.heap.size+1,0,none⟩) σ _).setCell (p:=⟨w.heap.size+1,1,none⟩) σ _);have co:Hid (((wr.drew.setCell ⟨w.heap.size+1,0,none⟩ (.slice AA rows.length cA)).setCell ⟨w.heap.size+1,1,none⟩ (.slice AG gts.length cG)).heap[w.heap.size+1]?=some (.cells #[.slice AA rows.length cA,.slice AG gts.length cG] 33 (0,0))):=aA h2
     have bh:=aA (fun(wf:World) (hs:wr.heap.size<=wf.heap.size) (hk:∀(g:Nat) (cur:Array Value) (T:TypeId),T≠33->wr.heap[g]?=some (.cells cur T (0,0))->wf.heap[g]?=some (.cells cur T (0,0))) (hf:β w wf)=>(show FY G w (.returned (.tuple #[.agg #[.slice AA rows.length cA,.slice AG gts.length cG],.slice AC cs.length cC,.int .i64 0])) wf from by
      have own:∀ {m n:Nat} {T:TypeId} {v:Value} {xs:List Value},wr.ownsRow R T m v n xs->T≠33->wf.ownsRow R T m v n xs:=fun {m n T v xs} ho hT=>by
       refine⟨ho.1,?_⟩;rcases ho.2 with h1|⟨g,cap,cur,h1,h2,h3,h4⟩
       ·exact .inl h1
       ·exact .inr ⟨g,cap,cur,h1,h2,hk g _ _ hT h3,h4⟩
      have fA:aK 64 1 jl wf R (.slice AA rows.length cA) rows:=own hA δ;have fG:aK 51 1 jl wf R (.slice AG gts.length cG) gts:=own hG δ;have fC:aK 66 5 qR wf R (.slice AC cs.length cC) cs:=own hC δ;obtain⟨AC',cC',eC,_,_,rC⟩:=fC.form yy;injection eC with eC _ _;subst eC;unfold maxLen at cj ck cl;refine⟨_,AC,cC,?_,⟨AA,cA,AG,cG,rfl,?_,cj,?_,ck,?_,?_⟩,?_,cl,?_,hf⟩
      ·rw[O,U,bg,Bh,Bh,dP.o]
      ·rw[O,Bh];exact dp
      ·rw[U,Bh];exact dq
      ·rw[O];exact aK.GB fA (fun r hr=>(bv r hr).fp fun g cur _ _ hc=>hk g cur _ δ hc) hs
      ·rw[U];exact aK.GB fG (fun r hr=>(bw r hr).fp fun g cur _ _ hc=>hk g cur _ δ hc) hs
      ·rw[bg];exact dr
      ·rw[bg];exact rC))
     have X:=aA du;have q4:=fun y:iR [R] wr=>y.row (j:=4) (u:=.slice AA rows.length cA) σ cm.o rfl;have q5:=fun y:iR [R] wr=>y.row (j:=5) (u:=.slice AG gts.length cG) σ cm.o rfl;have q6:=fun y:iR [R] wr=>y.row (j:=6) (u:=.slice AC cs.length cC) σ cm.o rfl;have ak:Hid (∃y:iR [R] wr,wr.drew=y.1):=aA ⟨⟨wr.drew,fun _ _=>rfl⟩,rfl⟩
     have cp:Hid (∃y:iR [R] wr,(wr.drew.setCell ⟨w.heap.size+1,0,none⟩ (.slice AA rows.length cA)).setCell ⟨w.heap.size+1,1,none⟩ (.slice AG gts.length cG)=y.1):=aA ⟨⟨_,fun g hg=>by
      rw[AW]at hg;subst hg;exact(AQ _ ⟨w.heap.size+1,1,none⟩ _ _ (fun e=>dt.o e.symm)).trans (AQ wr.drew ⟨w.heap.size+1,0,none⟩ _ _ (fun e=>dt.o e.symm))⟩,rfl⟩
     clear O U bg hA hG hC bv bw hb h1 h2 du dp cj dq ck dr cl bo hi aw cK cy cz;go_upto_region 12 with fail
     refine CalmN.fk (fun x=>∃y:iR [R] wr,x=y.1) (.one [0,1,2,3] 4 (.fin [5,6])) ak.o ?_;simp only[CalmN.fS,CalmN.fu,CalmN.fo,Aq,Ai,Am];repeat (go_big_quiet_step (fail))
     refine Ap ?_;clear q4 q5 q6;have y0:=aQ am.o;have y1:=aU am.o;have f0:=AM _ _ 0 _ _ am.o;have f1:=AM _ _ 1 _ _ am.o;have ly:=(Ad.1 am.o).1;generalize wr.drew=wd at *;intro KK b;rw[Az ε];go_wp2_with fail
     refine b _ _ cp.o _ ι cp.o ?_;clear b y0 y1 f0 f1 ly cp;generalize (wd.setCell ⟨w.heap.size+1,0,none⟩ (.slice AA rows.length cA)).setCell ⟨w.heap.size+1,1,none⟩ (.slice AG gts.length cG)=wf at *;repeat (go_big_quiet_step (fail))
     refine Ap ?_;have j0:=aQ co.o;have j1:=aU co.o;have lf:=(Ad.1 co.o).1;go_wp2;refine B3 (v:=.tuple #[.agg #[.slice AA rows.length cA,.slice AG gts.length cG],.slice AC cs.length cC,.int .i64 0]) (by simp[results,results11,go_sem,j0,j1]) rfl ?_;exact bh.o wf X.o dQ.o dR.o
theorem Kl (G:Gm.Gr) (v:Value) (B:Nat) (x:World) (as_:List (List Tb.Ce)) (gs:List (List Int)) (cs:List C5) (n m k:Nat) (er:Int) (ht:Tb.gI G=as_/\Tb.ic G=gs/\Tb.np G=cs) (hn:as_.length=n) (hm:gs.length=m) (hk:cs.length=k) (he:Au.jo G=er) (hg:aT x B v G) (hf:Gm.Fit G) (hB:B<=x.heap.size) :
  Calls prog 11 #[v] x fun e w'=>∃AA cA AG cG AC cC,e=.returned (.tuple #[.agg #[.slice AA n cA,.slice AG m cG],.slice AC k cC,.int .i64 er])/\tS w' w'.heap.size (.agg #[.slice AA n cA,.slice AG m cG]) as_ gs/\iC 5 qR w' w'.heap.size AC cs/\β x w' :=
 (KS v G B x hg hf hB).mono fun e w' h=>by
  obtain⟨vt,AC,cC,h1,h2,_,_,h3,h4⟩:=h;rw[ht.1,ht.2.1]at h2;rw[ht.2.2]at h1 h3;rw[hk,he]at h1;obtain⟨AA,cA,AG,cG,rfl,h5⟩:=h2;rw[hn,hm]at h1;refine⟨AA,cA,AG,cG,AC,cC,h1,⟨AA,cA,AG,cG,by rw[hn,hm],h5⟩,h3,h4⟩
theorem Qe (w:World):(Instr.build 26 #[]).run prog w=.ok (.agg #[.slice none 0 0,.slice none 0 0,.slice none 0 0,.int .i64 0]) w:=EC w 26 _ _ κ
theorem Rr:Gm.Fit Gm.lU:=⟨by simp[Gm.lU],by simp[Gm.lU],by simp[Gm.lU],by unfold Gm.In;simp[Gm.lU]⟩
theorem OR (w:World):Calls prog 8 #[] w fun e w'=>e=.returned (.bool true)/\β w w':=by
 have T1:=aA (Lc G9 bG δ δ Vs w w.heap.size rfl);have T2:=aA (fun(w1:World)=>Lc Ha bI δ δ Vt w1 w1.heap.size rfl);have U1:=(show(convert 72 72 (.slice (some ⟨w.heap.size,0,none⟩) 32 32)).run prog (w.alloc (.cells #[.int .u8 37,.int .u8 108,.int .u8 101,.int .u8 102,.int .u8 116,.int .u8 32,.int .u8 39,.int .u8 43,.int .u8 39,.int .u8 32,.int .u8 37,.int .u8 37,.int .u8 32,.int .u8 101,.int .u8 32,.int .u8 58,.int .u8 32,.int .u8 101,.int .u8 32,.int .u8 39,.int .u8 43,.int .u8 39,.int .u8 32,.int .u8 101,.int .u8 32,.int .u8 124,.int .u8 32,.int .u8 39,.int .u8 110,.int .u8 39,.int .u8 32,.int .u8 59] 5))=.ok (.slice (some ⟨w.heap.size,0,none⟩) 32 32) (w.alloc (xW G9)) from Mf w G9 32 32)
 have V2:=aA (fun w:World=>show(convert 72 72 (.slice (some ⟨w.heap.size,0,none⟩) 16 16)).run prog (w.alloc (.cells #[.int .u8 37,.int .u8 37,.int .u8 32,.int .u8 115,.int .u8 32,.int .u8 58,.int .u8 32,.int .u8 39,.int .u8 97,.int .u8 39,.int .u8 32,.int .u8 115,.int .u8 32,.int .u8 124,.int .u8 32,.int .u8 59] 5))=.ok (.slice (some ⟨w.heap.size,0,none⟩) 16 16) (w.alloc (xW Ha)) from Mf w Ha 16 16);have bc:G9.length=32:=rfl;have bd:Ha.length=16:=rfl;rw[bc]at T1;rw[bd]at T2;clear bc bd;have bf:=aA (fun(x:World)=>Kl Gm.lU (.agg #[.slice none 0 0,.slice none 0 0,.slice none 0 0,.int .i64 0]) x.heap.size x [] [] [] 0 0 0 1 Jh rfl rfl rfl Vz (ND x _) Rr (Af _));have b7:=fun w=>Qe w
 go_enter func8,ntmps8
 go_wp2_with fail
 refine T1.o.mono ?_;rintro _ w1 ⟨⟨g,rfl,ai,aa⟩,bg⟩;have bh:=aA (fun(x:World) (h:β w1 x)=>Kl bG g w1.heap.size x IG IM _ 5 5 1 0 US rfl rfl rfl Vm (ai.below h (Af _)) aa h.size);have aj:=aA (fun(x:World) (h:β w1 x) (k t:Int)=>OW g bG w1.heap.size k t x (ai.below h (Af _)) aa h.size);obtain⟨AT,cT,AN,cN,AR,cR,rfl,_,_,_,_,_,_⟩:=ai;have ak:=aA bg;have i:=aA (aZ.start 26 w1 #[.slice AT bG.ts.length cT,.slice AN bG.ns.length cN,.slice AR bG.rs.length cR,.int .i64 bG.st]);clear bg U1 T1 aa;obtain⟨wa,al⟩:=χ (w1.alloc (.cells #[.slice AT bG.ts.length cT,.slice AN bG.ns.length cN,.slice AR bG.rs.length cR,.int .i64 bG.st] 26))
 rw[<-al]at i;go_upto_region 2 with fail
 rw[<-al];clear al;have x0:=i.o.c 0 _ rfl;have x1:=i.o.c 1 _ rfl;have x2:=i.o.c 2 _ rfl;have x3:=i.o.c 3 _ rfl;go_wp2_with fail
 refine(bh.o wa i.o.below).mono ?_;rintro _ w2 ⟨A2,c2,B2,d2,C2,e2,rfl,bi,bj,bk⟩;have am:=aA (i.o.on bk);have ao:=aA (ak.o.trans (am.o.below.mono ak.o.size));have bl:=aA bi;have bm:=aA bj;clear x0 x1 x2 x3 bi bj bk bh i;have ap:=aA (aZ.start 33 w2 #[.slice A2 5 c2,.slice B2 5 d2]);obtain⟨wb,aq⟩:=χ (w2.alloc (.cells #[.slice A2 5 c2,.slice B2 5 d2] 33))
 rw[<-aq]at ap;have U2:=V2.o wb;have T3:=aA (T2.o wb);clear V2 T2;go_upto_region 3 with fail
 rw[<-aq];clear aq;go_wp2_with fail
 refine T3.o.mono ?_;rintro _ w3 ⟨⟨g2,rfl,ar,ab⟩,bn⟩;have af:=aA (ap.o.on bn);have bo:=aA (am.o.on (af.o.below));have au:=aA (ao.o.trans (af.o.below.mono ao.o.size));clear bn U2 T3 ap am;have bp:=aA (fun(x:World) (h:β w3 x)=>Kl bI g2 w3.heap.size x IH IN _ 4 4 0 0 UT rfl rfl rfl Vn (ar.below h (Af _)) ab h.size);have bq:=aA (fun(x:World) (h:β w3 x) (BT:Nat) (vt:Value) (rs:List (List Tb.Ce)) (gs:List (List Int)) (ht:tS x BT vt rs gs) (b8:BT<=x.heap.size) (h1:rs.length<=9/\gs.length<=9) (h2:∀r∈rs,r.length<=9) (h3:∀r∈gs,r.length<=9)=>Pn g2 bI w3.heap.size BT vt rs gs x (ar.below h (Af _)) ab h.size ht b8 ω (fun r hr=>by have:=h2 r hr;omega) (fun r hr=>by have:=h3 r hr;omega));obtain⟨ATb,cTb,ANb,cNb,ARb,cRb,rfl,_,_,_,_,_,_⟩:=ar;have j:=aA (aZ.start 26 w3 #[.slice ATb bI.ts.length cTb,.slice ANb bI.ns.length cNb,.slice ARb bI.rs.length cRb,.int .i64 bI.st]);clear ab;obtain⟨wc,av⟩:=χ (w3.alloc (.cells #[.slice ATb bI.ts.length cTb,.slice ANb bI.ns.length cNb,.slice ARb bI.rs.length cRb,.int .i64 bI.st] 26))
 rw[<-av]at j;go_upto_region 4 with fail
 rw[<-av];clear av;have x0:=j.o.c 0 _ rfl;have x1:=j.o.c 1 _ rfl;have x2:=j.o.c 2 _ rfl;have x3:=j.o.c 3 _ rfl;go_wp2_with fail
 refine(bp.o wc j.o.below).mono ?_;rintro _ w4 ⟨A4,c4,B4,d4,C4,e4,rfl,br,_,bs⟩;have u:=aA (j.o.on bs);have bu:=aA (af.o.on u.o.below);have bv:=aA (bo.o.on u.o.below);have aw:=aA (au.o.trans (u.o.below.mono au.o.size));have bw:=aA br;clear x0 x1 x2 x3 br bs bp j af bo;have ax:=aA (aZ.start 33 w4 #[.slice A4 4 c4,.slice B4 4 d4]);obtain⟨wd,ay⟩:=χ (w4.alloc (.cells #[.slice A4 4 c4,.slice B4 4 d4] 33))
 rw[<-ay]at ax;go_upto_region 5 with fail
 rw[<-ay];clear ay;go_wp2_with fail
 refine(bf.o wd).mono ?_;rintro _ w5 ⟨A5,c5,B5,d5,C5',e5,rfl,_,_,bx⟩;have bz:=aA (ax.o.on bx);obtain⟨we,az⟩:=χ (w5.alloc (.cells #[.slice A5 0 c5,.slice B5 0 d5] 33))
 have a0:Hid (aZ 33 w4 #[.slice A4 4 c4,.slice B4 4 d4] we):=aA (by rw[az];exact bz.o.alloc _);go_upto_region 6 with fail
 rw[<-az];clear az bx bf b7 ax bz;have p:=aA a0.o.below;have f:=aA (u.o.on p.o);have ag:=aA (bu.o.on p.o);have b:=aA (bv.o.on p.o);have bD:=aA (aw.o.trans (p.o.mono aw.o.size));have ah:=aA (ag.o.below);have b9:=aA (bl.o.below ah.o (Af _));have ca:=aA (bm.o.below ah.o (Af _));have bM:=aA (bw.o.below p.o (Af _));clear u bu bv bl bm bw ak ao au aw;obtain⟨A4',c4',B4',d4',e4',-,-,-,-,bT,bX⟩:=bM.o;injection e4' with e4';injection e4' with e4';simp only[EY,Value.slice.injEq,and_true]at e4';obtain⟨⟨rfl,-,rfl⟩,rfl,-,rfl⟩:=e4';obtain⟨gA,oA,rfl,cb,a1⟩:=bT δ;obtain⟨r2,k2,m2,_,_,rr2⟩:=a1 2 δ;obtain⟨r0,k0,m0,_,_,rr0⟩:=a1 0 δ;obtain⟨g2',o2',rfl,a2,ad⟩:=rr2 δ;obtain⟨g0',o0',rfl,a3,ac⟩:=rr0 δ;obtain⟨gG,oG,rfl,cc,b0⟩:=bX δ;obtain⟨q0,s0,p0,_,_,qq0⟩:=b0 0 δ;obtain⟨gz,oz,rfl,cd,b1⟩:=qq0 δ;obtain⟨gC,oC,rfl,ce,s⟩:=ca.o δ;have m2:we.cell? ⟨gA,oA+2,none⟩=some (.slice (some ⟨g2',o2',none⟩) 2 k2):=m2;have m0:we.cell? ⟨gA,oA,none⟩=some (.slice (some ⟨g0',o0',none⟩) 2 k0):=m0;have p0:we.cell? ⟨gG,oG,none⟩=some (.slice (some ⟨gz,oz,none⟩) 1 s0):=p0;have i2:we.cell? ⟨g2',o2'+2,none⟩=some (.int .i64 3):=ad 1 δ 0 _ rfl;have i0:we.cell? ⟨g0',o0'+2,none⟩=some (.int .i64 2):=ac 1 δ 0 _ rfl;have i1:we.cell? ⟨g0',o0'+2+1,none⟩=some (.int .i64 1):=ac 1 δ 1 _ rfl;have iz:we.cell? ⟨gz,oz,none⟩=some (.int .i64 2):=b1 0 δ 0 _ rfl;have j0:we.cell? ⟨gC,oC,none⟩=some (.int .i64 4):=s 0 δ 0 _ rfl;have j1:we.cell? ⟨gC,oC+1,none⟩=some (.int .i64 0):=s 0 δ 1 _ rfl;have j2:we.cell? ⟨gC,oC+2,none⟩=some (.int .i64 1):=s 0 δ 2 _ rfl;have j3:we.cell? ⟨gC,oC+3,none⟩=some (.int .i64 0):=s 0 δ 3 _ rfl;have j4:we.cell? ⟨gC,oC+4,none⟩=some (.int .i64 (-1)):=s 0 δ 4 _ rfl;have u0:=ag.o.c 0 _ rfl;have v0:=a0.o.c 0 _ rfl;have v1:=a0.o.c 1 _ rfl;clear a1 b0 b1 s ad ac rr2 rr0 qq0 bT bX cb a2 a3 cc cd ce;go_upto_region 8 with fail
 clear u0;have a4:=aA (bq.o we f.o.below w4.heap.size _ IH IN bM.o p.o.size δ δ δ);rw[Vc]at a4;have h0:=f.o.c 0 _ rfl;have h1:=f.o.c 1 _ rfl;have h2:=f.o.c 2 _ rfl;have h3:=f.o.c 3 _ rfl;go_wp2_with fail
 refine a4.o.mono ?_;rintro _ w6 ⟨rfl,b3⟩;have d:=aA b3;clear b3 m2 m0 p0 i2 i0 i1 iz j0 j1 j2 j3 j4 v0 v1 h0 h1 h2 h3 a4;have a5:=aA (bq.o w6 (f.o.on d.o).below w2.heap.size _ IG IM (b9.o.below d.o ah.o.size) (Ah ah.o.size d.o.size) δ δ δ);rw[Ud]at a5;have h0:=(f.o.on d.o).c 0 _ rfl;have h1:=(f.o.on d.o).c 1 _ rfl;have h2:=(f.o.on d.o).c 2 _ rfl;have h3:=(f.o.on d.o).c 3 _ rfl;have u0:=(ag.o.on d.o).c 0 _ rfl;have u1:=(ag.o.on d.o).c 1 _ rfl;go_wp2_with fail
 refine a5.o.mono ?_;rintro _ w7 ⟨rfl,b4⟩;have l:=aA (d.o.trans (b4.mono d.o.size));clear b4 h0 h1 h2 h3 u0 u1 a5 d;have a6:=aA (aj.o w7 ((b.o.on l.o).below) 0 0);rw[Up]at a6;have h0:=(b.o.on l.o).c 0 _ rfl;have h1:=(b.o.on l.o).c 1 _ rfl;have h2:=(b.o.on l.o).c 2 _ rfl;have h3:=(b.o.on l.o).c 3 _ rfl;go_wp2_with fail
 refine a6.o.mono ?_;rintro _ w8 ⟨rfl,b5⟩;have m:=aA (l.o.trans (b5.mono l.o.size));clear b5 h0 h1 h2 h3 a6 l;have a9:=aA (aj.o w8 ((b.o.on m.o).below) 1 0);rw[Tl]at a9;have h0:=(b.o.on m.o).c 0 _ rfl;have h1:=(b.o.on m.o).c 1 _ rfl;have h2:=(b.o.on m.o).c 2 _ rfl;have h3:=(b.o.on m.o).c 3 _ rfl;go_wp2_with fail
 refine a9.o.mono ?_;rintro _ w9 ⟨rfl,b6⟩;have n:=aA (m.o.trans (b6.mono m.o.size));clear b6 h0 h1 h2 h3 a9 m;have ba:=aA (aj.o w9 ((b.o.on n.o).below) 2 0);rw[Tk]at ba;have h0:=(b.o.on n.o).c 0 _ rfl;have h1:=(b.o.on n.o).c 1 _ rfl;have h2:=(b.o.on n.o).c 2 _ rfl;have h3:=(b.o.on n.o).c 3 _ rfl;go_wp2_with fail
 refine ba.o.mono ?_;rintro _ w10 ⟨rfl,ae⟩;have bb:=aA (n.o.trans (ae.mono n.o.size));clear ae h0 h1 h2 h3 ba n;go_wp2;go_ret
 exact⟨rfl,bD.o.trans (bb.o.mono bD.o.size)⟩
namespace Tb
open Au
theorem Ty (e:List (Int×Int)) (s:Int):lead e s=aW e s:=by
 unfold lead;induction e with
 | nil=>rfl
 | cons x l ih =>
  rw[aW,List.find?_cons];by_cases h:x.1=s
  ·rw[Az h,BP.2 h];rfl
  ·rw[AJ h,Bc.2 h];exact ih
theorem Te {q:Nat} (hq:q<E.length) (s:Int):lZ E q [s]=if 0<=aW (E.getD q []) s/\aW (E.getD q []) s<E.length then some (aW (E.getD q []) s) else none:=by
 rw[lZ,Az ω,lZ,Ty];rfl
theorem TP {l:List (Int×Int)} (h:s∈l.map (·.1)):(s,aW l s)∈l:=by
 induction l with
 | nil=>cases h
 | cons e l ih =>
  rw[aW];split
  ·rename_i k
   rw[<-k];exact Bn
  ·rename_i k
   rw[Bw]at h;exact Bq _ (ih ((BB.1 h).resolve_left fun q=>k q.symm))
theorem TW (G:Gm.Gr) (x:Ce) (t:Int) (ks:List Int):(cell G x t ks).1=x\/(∃k∈ks,(cell G x t ks).1=(2,k))\/(cell G x t ks).1=(0,0):=by
 cases ks with
 | nil=>exact .inl rfl
 | cons k ks =>
  unfold cell;simp only;split
  ·exact .inr (.inl ⟨k,Bn,rfl⟩)
  ·simp only;split
   ·exact .inr (.inl ⟨k,Bn,rfl⟩)
   ·split
    ·exact .inr (.inr rfl)
    ·exact .inl rfl
structure IT (G:Gm.Gr) (ss:List nY):Prop where
 al:(gI G).length=ss.length
 gl:(ic G).length=ss.length
 ne:1<=ss.length
 le:ss.length<=300
 el:∀x∈ss,x.2.length<=1000000
 ra:∀q (h:q<(gI G).length),(gI G)[q].length=G.ts.length+1
 rg:∀q (h:q<(ic G).length),(ic G)[q].length=G.ns.length
 sh:∀q (h:q<(gI G).length) k (_:k<G.ts.length) (hk':k<(gI G)[q].length),((gI G)[q][k].1=1->iE ss q [(k:Int)]=some ((gI G)[q][k]).2)/\((iE ss q [(k:Int)]).isSome=true->np G=[]->(gI G)[q][k].1=1)
 go:∀q (h:q<(ic G).length) k (hk:k<(ic G)[q].length),(ic G)[q][k]=(iE ss q [-1-(k:Int)]).getD (-1)
section
variable {G:Gm.Gr} {K:List (List It)} {E:List (List (Int×Int))}
theorem UP (hE:E.length=K.length):(K.zip E).map (·.2)=E:=by
 rw[List.map_snd_zip ω]
theorem Ki (hi:Inv G K E) (hE:E.length=K.length) {q:Nat} (hq:q<E.length) (hs:s∈(E.getD q []).map (·.1)):0<=aW (E.getD q []) s/\aW (E.getD q []) s<K.length:=by
 have hm:=TP hs;have e:E.getD q []=E[q]:=by rw[Aw,AH hq,Bu]
 rw[e]at hm ⊢;obtain⟨j,h1,h2⟩:=(hi.ed q hq).2 _ hm
 have:=(Bk.1 h2).1
 omega
theorem LK (hi:Inv G K E) (hE:E.length=K.length) {q:Nat} (hq:q<E.length) (s:Int):iE (K.zip E) q [s]=if s∈(E.getD q []).map (·.1) then some (aW (E.getD q []) s) else none:=by
 unfold iE;rw[UP hE,Te hq];by_cases hs:s∈(E.getD q []).map (·.1)
 ·have:=Ki hi hE hq hs
  rw[Az ω,Az hs]
 ·rw[AJ hs,AJ];rw[Hs fun e he q'=>hs (Bo.2 ⟨e,he,q'⟩)];omega
theorem TV (hn:o9 G K E K.length=[]) {q t:Nat} (hq:q<K.length) (ht:t<=G.ts.length):(act G (shift G (K.getD q []) (E.getD q [])) (Lk.gh G K E q) t).2=[]:=by
 unfold o9 at hn;have h1:=List.flatMap_eq_nil_iff.1 hn q (BU.2 hq);unfold Fm rW at h1;have h2:=List.flatMap_eq_nil_iff.1 h1 t (BU.2 ω);unfold tM at h2;exact List.map_eq_nil_iff.1 h2
end
theorem uC {p:List (List It)×List (List (Int×Int))} (hb:Gm.ja G=true) (hk:ku G=some p):IT G (kv G):=by
 obtain⟨K,E⟩:=p;have hs:=(jy hb hk).2;obtain⟨hi,hl,h3⟩:=jx hk;obtain⟨ea,eg,ec⟩:=oV hb hk;have aa:=Gm.fq.1 (Gm.gx hb);have hz:(kv G).length=K.length:=by rw[hs,EB,hl,Nat.min_self]
 have h0:=(Bk.1 hi.h0).1;have la:(gI G).length=K.length:=by rw[ea,Bh,DV]
 have lg:(ic G).length=K.length:=by rw[eg,Bh,DV]
 have gA:∀q (h:q<(gI G).length),(gI G)[q]=oP G K E q:=fun q h=>by
  rw[D9 ea,Cg,DP]
 have gG:∀q (h:q<(ic G).length),(ic G)[q]=om G E q:=fun q h=>by
  rw[D9 eg,Cg,DP]
 refine⟨ω,ω,ω,ω,fun x hx=>?_,fun q h=>?_,fun q h=>?_,fun q h k ab ae=>?_,fun q h k ab=>?_⟩
 ·rw[hs]at hx;obtain⟨i,ac,rfl⟩:=BG hx;rw[Fe];have ad:i<E.length:=by rw[EB]at ac;omega
  have h1:=congrArg List.length (hi.ed i ad).1;rw[Bh]at h1;have h2:((syms G).filter fun s=>mv G (jb G (K.getD i [])) s != []).length<=(syms G).length:=CD _ _;have h4:=lE G;have h5:=((Gm.fK G.ts).1 aa.t).1;have h6:=((Gm.fF G).1 aa.n).2.1
  show(E[i]).length<=1000000
  omega
 ·rw[gA q h];exact fW _ _
 ·rw[gG q h];exact fW _ _
 ·have e1:(gI G)[q][k]=(act G (shift G (K.getD q []) (E.getD q [])) (Lk.gh G K E q) k).1:=by
   rw[D9 (gA q h)];exact jE _
  rw[e1,hs,LK hi hl ω];have hn:¬((k:Int)=G.ts.length/\((-1:Int),(1:Int))∈K.getD q []):=ω
  refine⟨fun h1=>?_,fun h1 h2=>?_⟩
  ·unfold act at h1 ⊢;have h4:=Qc h1;rw[h4]at h1 ⊢;unfold shift at h1 ⊢;by_cases hm:(k:Int)∈(E.getD q []).map (·.1)
   ·rw[Az hm,Az hm]
   ·rw[AJ hm,AJ hn]at h1;cases h1
  ·have hm:(k:Int)∈(E.getD q []).map (·.1):=by
    refine BX fun hm=>?_;rw[AJ hm]at h1;cases h1
   rw[ec]at h2;have h5:=TV h2 (q:=q) (t:=k) ω ω;have h6:shift G (K.getD q []) (E.getD q []) k=(1,aW (E.getD q []) k):=Az hm;unfold act at h5 ⊢;rw[(Qd h5 (by rw[h6];exact Int.one_ne_zero)).1,h6]
 ·have e1:(ic G)[q][k]=aW (E.getD q []) (-1-(k:Int)):=by
   rw[D9 (gG q h)];exact jE _
  rw[e1,hs,LK hi hl ω];by_cases hm:(-1-(k:Int))∈(E.getD q []).map (·.1)
  ·rw[Az hm];rfl
  ·rw[AJ hm];exact Hs fun e he q'=>hm (Bo.2 ⟨e,he,q'⟩)
theorem zg {p:List (List It)×List (List (Int×Int))} (hb:Gm.ja G=true) (hk:ku G=some p):may G (gI G) (ic G)=true:=by
 have hw:=uC hb hk;obtain⟨K,E⟩:=p;have hs:=(jy hb hk).2;obtain⟨hi,hl,h3⟩:=jx hk;obtain⟨ea,eg,ec⟩:=oV hb hk;have aa:=Gm.fq.1 (Gm.gx hb);have hz:(kv G).length=K.length:=by rw[hs,EB,hl,Nat.min_self]
 have:=hw.al;have:=hw.gl;have:=hw.ne;have:=hw.le
 rw[q7 ⟨Gm.gx hb,ω,ω,ω⟩,B6];intro q hq;have hq:=BU.1 hq
 have gA:(gI G).getD q []=oP G K E q:=by
  rw[Aw,AH hq,Bu,D9 ea,Cg,DP]
 have ab:q<(ic G).length:=ω
 have gG:(ic G).getD q []=om G E q:=by
  rw[Aw,AH ab,Bu,D9 eg,Cg,DP]
 unfold jW ph pG;rw[gA,gG];simp only[Bd,Bj];refine⟨⟨fW _ _,B6.2 fun x hx=>?_⟩,fW _ _,B6.2 fun x hx=>?_⟩
 ·obtain⟨t,_,rfl⟩:=Bo.1 hx
  have hsh:iS G (gI G).length (shift G (K.getD q []) (E.getD q []) t)=true:=by
   unfold shift;split
   ·rename_i hm
    obtain⟨h4,h5⟩:=Ki hi hl (q:=q) ω hm;unfold iS;rw[AJ σ,Az rfl,AV h4,AV (by show aW (E.getD q []) (t:Int)<_;omega)];rfl
   ·split <;> rfl
  show iS G (gI G).length (cell G (shift G (K.getD q []) (E.getD q []) t) t (Lk.rl (Lk.gh G K E q) t)).1=true
  rcases TW G (shift G (K.getD q []) (E.getD q []) t) t (Lk.rl (Lk.gh G K E q) t) with h|⟨j,hj,h⟩|h
  ·rw[h];exact hsh
  ·rw[h];obtain⟨x,hx,rfl⟩:=Nl hj;obtain⟨_,h1,h2⟩:=Lk.vq ((Gm.fK G.ts).1 aa.t).1 aa.kL hx;unfold iS;rw[AJ σ,AJ σ,Az rfl,AV h1,AV h2];rfl
  ·rw[h];rfl
 ·obtain⟨t,_,rfl⟩:=Bo.1 hx
  show ju (gI G).length (aW (E.getD q []) (-1-(t:Int)))=true
  by_cases hm:(-1-(t:Int))∈(E.getD q []).map (·.1)
  ·obtain⟨h4,h5⟩:=Ki hi hl (q:=q) ω hm;unfold ju;rw[AV h4,AV ω,CR];exact .inr rfl
  ·rw[Hs fun e he q'=>hm (Bo.2 ⟨e,he,q'⟩)];rfl
theorem tZ (G:Gm.Gr):(jo G≠0/\gI G=[]/\ic G=[]/\np G=[])\/(jo G=0/\Gm.ja G=true/\∃p,ku G=some p):=by
 cases hb:Gm.ja G with
 | false=>exact .inl ⟨by rw[(lK hb).1];decide,rH hb⟩
 | true =>
  cases hk:ku G with
  | none=>exact .inl ⟨by rw[(jO hb hk).1];decide,qf hb hk⟩
  | some p=>exact .inr ⟨(jy hb hk).1,rfl,p,rfl⟩
end Tb
theorem Tb.xR (n:Nat) (z:Int):Tb.ju n z=(decide (-1<=z)&&decide (z<n)):=by
 unfold Tb.ju;rw[Bx];simp only[CR,Bd,BP,Bj];omega
theorem LN {α:Type} {l:List α} {p:α->Bool} (h:k<l.length) (h1:(l.take k).all p=true) (h2:p l[k]=true):(l.take (k+1)).all p=true:=by
 rw[AP h,List.all_append,h1];simp[h2]
theorem M6 {α:Type} {l:List α} {p:α->Bool} (h:k<l.length) (h2:p l[k]=false):l.all p=false:=by
 rw[Eg];exact⟨_,AD h,by rw[h2];decide⟩
theorem QV (v:Value) (G:Gm.Gr) (B:Nat) (AA AG:Option Addr) (n m cA cG:Nat) (x:Tb.Ce) (w:World) (hg:aT w B v G) :
  Calls prog 39 #[v,.agg #[.slice AA n cA,.slice AG m cG],.agg #[.int .i64 x.1,.int .i64 x.2]] w fun e w'=>e=.returned (.bool (Tb.iS G n x))/\β w w':=by
 obtain⟨AT,cT,AN,cN,AR,cR,rfl,_⟩:=hg;have aa:=aA (bA.start 26 33 w #[.slice AT G.ts.length cT,.slice AN G.ns.length cN,.slice AR G.rs.length cR,.int .i64 G.st] #[.slice AA n cA,.slice AG m cG]);have f:=aA (aZ.start 63 ((w.alloc (.cells #[.slice AT G.ts.length cT,.slice AN G.ns.length cN,.slice AR G.rs.length cR,.int .i64 G.st] 26)).alloc (.cells #[.slice AA n cA,.slice AG m cG] 33)) #[.int .i64 x.1,.int .i64 x.2]);have d:=aA (aa.o.on f.o.below);have x2:=d.o.c1 2 _ rfl;have t0:=d.o.c2 0 _ rfl;have y0:=f.o.c 0 _ rfl;have y1:=f.o.c 1 _ rfl;have e2:((w.alloc (.cells #[.slice AT G.ts.length cT,.slice AN G.ns.length cN,.slice AR G.rs.length cR,.int .i64 G.st] 26)).alloc (.cells #[.slice AA n cA,.slice AG m cG] 33)).heap.size=w.heap.size+2:=σ
 rw[e2]at y0 y1;have HC:Hid (Tb.iS G n x=if x.1=0\/x.1=3 then x.2==0 else if x.1=1 then decide (0<=x.2)&&decide (x.2<n) else if x.1=2 then decide (0<=x.2)&&decide (x.2<G.rs.length) else false):=aA rfl;generalize Tb.iS G n x=r at *;obtain⟨a,b⟩:=x;simp only at HC x2 y0 y1 t0 f d ⊢;clear f aa e2;by_cases h0:a=0
 ·have HE:=aA (HC.o.trans (Az (.inl h0)));subst h0;clear HC
  go_enter func39,ntmps39
  go_wp2
  all_goals
   go_ret
   exact⟨aD HE.o.symm,d.o.below⟩
 ·by_cases h3:a=3
  ·have HE:=aA (HC.o.trans (Az (.inr h3)));subst h3;clear HC
   go_enter func39,ntmps39
   go_wp2
   all_goals
    go_ret
    exact⟨aD HE.o.symm,d.o.below⟩
  ·have HC:=aA (HC.o.trans (AJ ω));by_cases h1:a=1
   ·have HE:=aA (HC.o.trans (Az h1));subst h1;clear h0 h3;by_cases hb:0<=b
    ·have HE:Hid (r=decide (b<n)):=aA (by rw[HE.o,AV hb,Cw]);clear HC
     go_enter func39,ntmps39
     go_wp2
     all_goals
      go_ret
      exact⟨aD HE.o.symm,d.o.below⟩
    ·have HE:Hid (r=false):=aA (by rw[HE.o,AU hb,CZ]);clear HC
     go_enter func39,ntmps39
     go_wp2
     all_goals
      go_ret
      exact⟨aD HE.o.symm,d.o.below⟩
   ·have HC:=aA (HC.o.trans (AJ h1));by_cases h2:a=2
    ·have HE:=aA (HC.o.trans (Az h2));subst h2;clear h0 h3 h1;by_cases hb:0<=b
     ·have HE:Hid (r=decide (b<G.rs.length)):=aA (by rw[HE.o,AV hb,Cw]);clear HC
      go_enter func39,ntmps39
      go_wp2
      all_goals
       go_ret
       exact⟨aD HE.o.symm,d.o.below⟩
     ·have HE:Hid (r=false):=aA (by rw[HE.o,AU hb,CZ]);clear HC
      go_enter func39,ntmps39
      go_wp2
      all_goals
       go_ret
       exact⟨aD HE.o.symm,d.o.below⟩
    ·have HE:=aA (HC.o.trans (AJ h2));have b0:(a==0)=false:=by simpa using h0
     have b1:(a==1)=false:=by simpa using h1
     have b2:(a==2)=false:=by simpa using h2
     have b3:(a==3)=false:=by simpa using h3
     clear h0 h1 h2 h3;clear HC
     go_enter func39,ntmps39
     go_wp2
     all_goals
      go_ret
      exact⟨aD HE.o.symm,d.o.below⟩
theorem Oy (v:Value) (G:Gm.Gr) (B BT:Nat) (vt:Value) (rs:List (List Tb.Ce)) (gs:List (List Int)) (w:World) (hg:aT w B v G) (hf:Gm.Fit G) (hB:B<=w.heap.size) (ht:tS w BT vt rs gs) (ax:BT<=w.heap.size) (bi:rs.length<=310/\gs.length<=310) (ay:∀r∈rs,r.length<=50) (az:∀r∈gs,r.length<=50) :
  Calls prog 18 #[v,vt] w fun e w'=>e=.returned (.bool (Tb.may G rs gs))/\β w w':=by
 have H1:=aA (fun(x:World) (h:β w x)=>Ib v G B x (hg.below h hB) hf (Ah hB h.size));have b0:=aA hB;have ac:=aA ax;have a0:=aA ay;have a1:=aA az;have bj:(rs.length:Int)<=310:=ω
 have bk:(gs.length:Int)<=310:=ω
 obtain⟨AA,cA,AG,cG,rfl,_,_,_,_,a2,a3⟩:=ht;have a4:=aA a2;have a5:=aA a3;have ak:=aA (fun(x:World) (h:β w x) (n m:Nat) (y:Tb.Ce)=>QV v G B AA AG n m cA cG y x (hg.below h hB));obtain⟨AT,cT,AN,cN,AR,cR,rfl,_⟩:=hg;obtain⟨w1,C⟩:∃y,y=(w.alloc (.cells #[.slice AT G.ts.length cT,.slice AN G.ns.length cN,.slice AR G.rs.length cR,.int .i64 G.st] 26)).alloc (.cells #[.slice AA rs.length cA,.slice AG gs.length cG] 33):=⟨_,rfl⟩
 have j:Hid (bA 26 33 w #[.slice AT G.ts.length cT,.slice AN G.ns.length cN,.slice AR G.rs.length cR,.int .i64 G.st] #[.slice AA rs.length cA,.slice AG gs.length cG] w1):=aA (by rw[C];exact bA.start _ _ _ _ _);have x0:=j.o.c1 0 _ rfl;have x1:=j.o.c1 1 _ rfl;have x2:=j.o.c1 2 _ rfl;have x3:=j.o.c1 3 _ rfl;have y0:=j.o.c2 0 _ rfl;have s:=aA (H1.o w1 j.o.below);clear a2 a3 hf hB ax bi ay az H1;by_cases D:Gm.right G=true/\rs.length=gs.length/\1<=rs.length/\rs.length<=300
 ·have ad:=aA (Tb.q7 D);rw[ad.o];obtain⟨q,ae,al,am⟩:=D;rw[q]at s;have bl:G.ts.length<=24/\G.ns.length<=16:=⟨((Gm.fK G.ts).1 (Gm.fq.1 q).t).1,((Gm.fF G).1 (Gm.fq.1 q).n).2.1⟩
  have b1:(G.ts.length:Int)<=24:=ω
  have b3:(G.ns.length:Int)<=16:=ω
  have bm:=aA ae;have HQ:=aA (Ca al am);obtain⟨n,hn⟩:∃n,rs.length=n:=⟨_,rfl⟩
  rw[<-ae]at j;rw[hn]at j HQ ad y0;have HN:=aA hn;have al:=HQ.o.1;have am:=HQ.o.2;have bn:((n:Int) != (n:Int))=false:=σ
  have bo:(1:Int)<=(n:Int):=ω
  have b4:(n:Int)<=300:=ω
  rw[hn];clear q bk bj hn bl
  go_enter func18,ntmps18
  go_upto_region 1 with fail
  rw[<-ae,HN.o]at C ⊢;rw[<-C];clear C ae;go_wp2_with fail
  refine s.o.mono ?_;rintro _ w2 ⟨rfl,hb⟩;have l:=aA (j.o.on hb);clear hb x0 x1 x2 x3 y0;have y0:=l.o.c2 0 _ rfl;have y1:=l.o.c2 1 _ rfl;go_wp2;clear y0 y1 bn bo al am s j;go_loopw [5] (fun vi wr=>∃i:Nat,i<=n/\vi=.int .i64 i/\Hid ((List.range i).all (Tb.jW G rs gs)=true)/\Hid (bA 26 33 w #[.slice AT G.ts.length cT,.slice AN G.ns.length cN,.slice AR G.rs.length cR,.int .i64 G.st] #[.slice AA n cA,.slice AG n cG] wr)) (fun vi _=>n-(intOf vi).toNat)
  case atStart=>exact⟨0,Bb _,rfl,aA rfl,l⟩
  case round =>
   clear l;obtain⟨i,hi,rfl,HA,HW⟩:=hrel;rename World=>wr;have y0:=HW.o.c2 0 _ rfl;by_cases ao:i<n
   ·have af:i<rs.length:=by have:=HN.o;omega
    have ag:i<gs.length:=by have:=bm.o;omega
    obtain⟨gA,oA,rfl,bp,a6⟩:=a4.o ω;obtain⟨A1,c1,k1,-,-,r1⟩:=a6 i af;obtain⟨gG,oG,rfl,bq,a9⟩:=a5.o ω;obtain⟨A2,c2,k2,-,-,r2⟩:=a9 i ag;have e1:rs.getD i []=rs[i]:=by rw[Aw,AH af];rfl
    have e2:gs.getD i []=gs[i]:=by rw[Aw,AH ag];rfl
    have u:Hid (Tb.jW G rs gs i=((decide (rs[i].length=G.ts.length+1)&&rs[i].all (Tb.iS G n))&&(decide (gs[i].length=G.ns.length)&&gs[i].all (Tb.ju n)))):=aA (by unfold Tb.jW Tb.ph Tb.pG;rw[e1,e2,HN.o]);have br:=aA (Tb.pg (Tb.jW G rs gs) i);have ah:=aA (fun h=>Tb.rR (p:=Tb.jW G rs gs) ao h);have b5:=a0.o _ (AD af);have b6:=a1.o _ (AD ag);have ba:=aA ao;have bb:=aA r1;have bs:=aA r2;have b7:(i:Int)<(n:Int):=ω
    have s:=aA (fun(y:World) (h:β w y)=>(h.cell (p:=⟨gA,oA+i,none⟩) (Aj bp ac.o)).trans k1);have ap:=aA (fun(y:World) (h:β w y)=>(h.cell (p:=⟨gG,oG+i,none⟩) (Aj bq ac.o)).trans k2);clear e1 e2 a6 a9 r1 r2 k1 k2;generalize rs[i]=ra at *;generalize gs[i]=rg at *;clear af ag ao;have bu:(ra.length:Int)<=50:=ω
    have bv:(rg.length:Int)<=50:=ω
    have q0:=fun y:Calm.On wr.heap.size wr=>(HW.o.on y.2).c1 0 _ rfl;have q1:=fun y:Calm.On wr.heap.size wr=>(HW.o.on y.2).c1 1 _ rfl;have p0:=fun y:Calm.On wr.heap.size wr=>(HW.o.on y.2).c2 0 _ rfl;have p1:=fun y:Calm.On wr.heap.size wr=>(HW.o.on y.2).c2 1 _ rfl;have m1:=fun y:Calm.On wr.heap.size wr=>s.o y.1 (HW.o.on y.2).below;have m2:=fun y:Calm.On wr.heap.size wr=>ap.o y.1 (HW.o.on y.2).below;have ai:Hid (bA 26 33 w #[.slice AT G.ts.length cT,.slice AN G.ns.length cN,.slice AR G.rs.length cR,.int .i64 G.st] #[.slice (some ⟨gA,oA,none⟩) n cA,.slice (some ⟨gG,oG,none⟩) n cG] wr.drew):=aA (HW.o.drewN 1);have A:Hid (∃z:Calm.On wr.heap.size wr,wr.drew=z.1):=rM wr;have aq:IntKind.i64.wrap ((G.ts.length:Int)+1)=(G.ts.length:Int)+1:=BV _ ω;by_cases f:ra.length=G.ts.length+1/\rg.length=G.ns.length
    ·have u:Hid (Tb.jW G rs gs i=(ra.all (Tb.iS G n)&&rg.all (Tb.ju n))):=aA (by rw[u.o,AV f.1,AV f.2,Cw,Cw]);have h1:((ra.length:Int) != (G.ts.length:Int)+1)=false:=by rw[EU];omega
     have h2:((rg.length:Int) != (G.ns.length:Int))=false:=by rw[EU];omega
     clear f;go_upto_region 6 with fail
     refine CalmN.fk (γ wr) (.fin [0,1,2,3,4,5,6,7,8,9,10,11,12,13,14,15,16,17,18,19,20,21,22]) A.o ?_;simp only[CalmN.fS,CalmN.fo,Aq,Ai,Am];repeat (go_big_quiet_step (fail))
     refine Ap ?_;clear q0 q1 p0 p1 m1 m2 h1 h2 y0 HW aq;generalize wr.drew=wd at *;go_wp2;go_loopw [6] (fun vk wz=>∃k:Nat,k<=ra.length/\vk=.int .i64 k/\Hid ((ra.take k).all (Tb.iS G n)=true)/\Hid (bA 26 33 w #[.slice AT G.ts.length cT,.slice AN G.ns.length cN,.slice AR G.rs.length cR,.int .i64 G.st] #[.slice (some ⟨gA,oA,none⟩) n cA,.slice (some ⟨gG,oG,none⟩) n cG] wz)) (fun vk _=>ra.length-(intOf vk).toNat)
     case atStart=>exact⟨0,Bb _,rfl,aA σ,ai⟩
     case round =>
      clear ai A;obtain⟨k,hk,rfl,HC,HZ⟩:=hrel;rename World=>wz;have y0:=HZ.o.c2 0 _ rfl;have m1:=s.o wz HZ.o.below;have lA:gA<wz.heap.size:=Bl m1;by_cases g:k<ra.length
      ·obtain⟨gr,gro,rfl,F,E⟩:=bb.o ω;have aa:=Aj F ac.o;have n0:=fun y:Calm.On wz.heap.size wz=>((HZ.o.on y.2).below.cell (p:=⟨gr,gro+k*2+0,none⟩) aa).trans (E k g 0 (.int .i64 (ra[k]).1) rfl);have n1:=fun y:Calm.On wz.heap.size wz=>((HZ.o.on y.2).below.cell (p:=⟨gr,gro+k*2+1,none⟩) aa).trans (E k g 1 (.int .i64 (ra[k]).2) rfl);simp only[CB]at n0;have ar:=aA (fun h=>LN (p:=Tb.iS G n) g HC.o h);have aj:=aA (fun h=>M6 (p:=Tb.iS G n) g h);have H:=aA g;have bw:(k:Int)<(ra.length:Int):=ω
       have bx:=aA (fun(y:World) (h:β w y)=>ak.o y h n n ra[k]);clear E F;generalize ra[k]=x at *;generalize Tb.iS G n x=b at *;clear g;have g0:=fun y:Calm.On wz.heap.size wz=>(HZ.o.on y.2).c1 0 _ rfl;have g1:=fun y:Calm.On wz.heap.size wz=>(HZ.o.on y.2).c1 1 _ rfl;have g2:=fun y:Calm.On wz.heap.size wz=>(HZ.o.on y.2).c1 2 _ rfl;have g3:=fun y:Calm.On wz.heap.size wz=>(HZ.o.on y.2).c1 3 _ rfl;have p0:=fun y:Calm.On wz.heap.size wz=>(HZ.o.on y.2).c2 0 _ rfl;have p1:=fun y:Calm.On wz.heap.size wz=>(HZ.o.on y.2).c2 1 _ rfl;have n2:=fun y:Calm.On wz.heap.size wz=>s.o y.1 (HZ.o.on y.2).below;have HD:Hid (β wz wz.drew):=aA (aB (AB _ _) 1);go_upto_region 11 with fail
       refine CalmN.fk (γ wz) (.one [0,1,2,3,4,5,6,7,8,9] 10 (.fin [11])) ⟨⟨wz.drew,HD.o⟩,rfl⟩ ?_;simp only[CalmN.fS,CalmN.fu,CalmN.fo,Aq,Ai,Am];repeat (go_big_quiet_step (fail))
       refine Ap ?_;clear n0 n1 n2 g0 g1 g2 g3 p0 p1 y0 m1 lA;generalize wz.drew=we at *;have I:=aA (HZ.o.on HD.o);intro KK bc;rw[Az ε];go_wp2_with fail
       refine(bx.o we I.o.below).mono ?_;rintro _ w3 ⟨rfl,bd⟩;have au:=aA (HD.o.trans (bd.mono HD.o.size));have bf:=aA (HZ.o.on au.o);clear bd;go_wp2_with fail
       refine bc _ _ ⟨⟨w3,au.o⟩,rfl⟩ _ ι ⟨⟨w3,au.o⟩,rfl⟩ ?_;clear bc;cases b
       ·have HF:=aA (ah.o (by rw[u.o,aj.o rfl];rfl));repeat (go_big_quiet_step (fail))
        refine Ap ?_;go_wp2;go_ret
        exact⟨aD HF.o.symm,bf.o.below⟩
       ·have HX:=aA (ar.o rfl);repeat (go_big_quiet_step (fail))
        refine Ap ?_;go_wp2;go_roundw
        case rel=>exact⟨k+1,H.o,ν,HX,bf⟩
        case measure=>simp[intOf];have:=H.o;omega
      ·obtain rfl:k=ra.length:=ω
       rw[Bp]at HC;have u:Hid (Tb.jW G rs gs i=rg.all (Tb.ju n)):=aA (by rw[u.o,HC.o,Cw]);clear HC g hk bb ak;go_wp2;clear y0 m1 lA;go_loopw [7] (fun vk wz=>∃k:Nat,k<=rg.length/\vk=.int .i64 k/\Hid ((rg.take k).all (Tb.ju n)=true)/\Hid (bA 26 33 w #[.slice AT G.ts.length cT,.slice AN G.ns.length cN,.slice AR G.rs.length cR,.int .i64 G.st] #[.slice (some ⟨gA,oA,none⟩) n cA,.slice (some ⟨gG,oG,none⟩) n cG] wz)) (fun vk _=>rg.length-(intOf vk).toNat)
       case atStart=>exact⟨0,Bb _,rfl,aA σ,HZ⟩
       case round =>
        clear HZ;obtain⟨k,hk,rfl,HC,HZ⟩:=hrel;rename World=>wx;have y1:=HZ.o.c2 1 _ rfl;have m2:=ap.o wx HZ.o.below;have lG:gG<wx.heap.size:=Bl m2;by_cases g:k<rg.length
        ·obtain⟨gr,gro,rfl,F,E⟩:=bs.o ω;have aa:=Aj F ac.o;have n0:=fun y:Calm.On wx.heap.size wx=>((HZ.o.on y.2).below.cell (p:=⟨gr,gro+k*1+0,none⟩) aa).trans (E k g 0 (.int .i64 rg[k]) rfl);simp only[CB,DS]at n0;have ar:=aA (fun h=>LN (p:=Tb.ju n) g HC.o h);have aj:=aA (fun h=>M6 (p:=Tb.ju n) g h);have H:=aA g;have bw:(k:Int)<(rg.length:Int):=ω
         have av:=aA (Tb.xR n rg[k]);clear E F;generalize rg[k]=z at *;generalize Tb.ju n z=b at *;clear g;have p0:=fun y:Calm.On wx.heap.size wx=>(HZ.o.on y.2).c2 0 _ rfl;have p1:=fun y:Calm.On wx.heap.size wx=>(HZ.o.on y.2).c2 1 _ rfl;have n2:=fun y:Calm.On wx.heap.size wx=>ap.o y.1 (HZ.o.on y.2).below;have I:=aA (HZ.o.drewN 1);have A:Hid (∃z:Calm.On wx.heap.size wx,wx.drew=z.1):=rM wx;go_upto_region 16 with fail
         by_cases aw:z < -1
         ·have HF:=aA (ah.o (by rw[u.o,aj.o (by rw[av.o,AU ω];rfl)]));have bg:decide (z < -1)=true:=AV aw;refine CalmN.fk (γ wx) (.fin [0,1,2,3,4,5,6,7,8,9,10,11,12,13,14,15,16,17,18,19,20,21,22]) A.o ?_;simp only[CalmN.fS,CalmN.fo,Aq,Ai,Am];repeat (go_big_quiet_step (fail))
          refine Ap ?_;clear p0 p1 n0 n2;go_wp2;go_ret
          exact⟨aD HF.o.symm,I.o.below⟩
         ·by_cases bh:z<n
          ·have HX:=aA (ar.o (by rw[av.o,AV bh,AV ω];rfl));have bg:decide (z < -1)=false:=AU aw;have bz:decide ((n:Int)<=z)=false:=AU ω;refine CalmN.fk (γ wx) (.fin [0,1,2,3,4,5,6,7,8,9,10,11,12,13,14,15,16,17,18,19,20,21,22]) A.o ?_;simp only[CalmN.fS,CalmN.fo,Aq,Ai,Am];repeat (go_big_quiet_step (fail))
           refine Ap ?_;clear p0 p1 n0 n2;go_wp2;go_roundw
           case rel=>exact⟨k+1,H.o,ν,HX,I⟩
           case measure=>simp[intOf];have:=H.o;omega
          ·have HF:=aA (ah.o (by rw[u.o,aj.o (by rw[av.o,AU bh,EN])]));have bg:decide (z < -1)=false:=AU aw;have bz:decide ((n:Int)<=z)=true:=AV ω;refine CalmN.fk (γ wx) (.fin [0,1,2,3,4,5,6,7,8,9,10,11,12,13,14,15,16,17,18,19,20,21,22]) A.o ?_;simp only[CalmN.fS,CalmN.fo,Aq,Ai,Am];repeat (go_big_quiet_step (fail))
           refine Ap ?_;clear p0 p1 n0 n2;go_wp2;go_ret
           exact⟨aD HF.o.symm,I.o.below⟩
        ·obtain rfl:k=rg.length:=ω
         rw[Bp]at HC;have HX:Hid ((List.range (i+1)).all (Tb.jW G rs gs)=true):=aA (by rw[br.o,HA.o,u.o,HC.o];rfl);go_wp2;go_roundw
         case rel=>exact⟨i+1,ba.o,ν,HX,HZ⟩
         case measure=>simp[intOf];have:=ba.o;omega
    ·have HF:=aA (ah.o (by
      rw[u.o];by_cases q1:ra.length=G.ts.length+1
      ·rw[AU (fun q=>f ⟨q1,q⟩:¬rg.length=G.ns.length),CZ,EN]
      ·rw[AU q1,CZ,CZ]))
     go_upto_region 6 with fail
     by_cases h1:ra.length=G.ts.length+1
     ·have bD:((ra.length:Int) != (G.ts.length:Int)+1)=false:=by rw[EU];omega
      have b8:((rg.length:Int) != (G.ns.length:Int))=true:=by rw[DW];intro q;exact f ⟨h1,ω⟩
      clear f h1;refine CalmN.fk (γ wr) (.fin [0,1,2,3,4,5,6,7,8,9,10,11,12,13,14,15,16,17,18,19,20,21,22]) A.o ?_;simp only[CalmN.fS,CalmN.fo,Aq,Ai,Am];repeat (go_big_quiet_step (fail))
      refine Ap ?_;clear q0 q1 p0 p1 m1 m2;go_wp2;go_ret
      exact⟨aD HF.o.symm,ai.o.below⟩
     ·have bD:((ra.length:Int) != (G.ts.length:Int)+1)=true:=by rw[DW];omega
      clear f h1;refine CalmN.fk (γ wr) (.fin [0,1,2,3,4,5,6,7,8,9,10,11,12,13,14,15,16,17,18,19,20,21,22]) A.o ?_;simp only[CalmN.fS,CalmN.fo,Aq,Ai,Am];repeat (go_big_quiet_step (fail))
      refine Ap ?_;clear q0 q1 p0 p1 m1 m2;go_wp2;go_ret
      exact⟨aD HF.o.symm,ai.o.below⟩
   ·obtain rfl:i=n:=ω
    go_wp2;go_ret
    exact⟨aD HA.o.symm,HW.o.below⟩
 ·have ad:=aA (Tb.uF D);rw[ad.o];clear ak a4 a5 a0 a1;cases q:Gm.right G
  all_goals
   rw[q]at s D;have bM:=aA D;clear q D
   go_enter func18,ntmps18
   go_upto_region 1 with fail
   rw[<-C];clear C;go_wp2_with fail
   refine s.o.mono ?_;rintro _ w2 ⟨rfl,hb⟩;have l:=aA (j.o.on hb);clear hb x0 x1 x2 x3 y0;have y0:=l.o.c2 0 _ rfl;have y1:=l.o.c2 1 _ rfl
  ·go_wp2;go_ret
   exact⟨rfl,l.o.below⟩
  ·have ab:¬(rs.length=gs.length/\1<=rs.length/\rs.length<=300):=fun h=>bM.o ⟨by trivial,h⟩;by_cases hq:rs.length=gs.length
   ·have bT:((gs.length:Int) != (rs.length:Int))=false:=by rw[EU];omega
    have bX:¬(1<=rs.length/\rs.length<=300):=fun h=>ab ⟨hq,h⟩;clear ab hq;go_wp2
    all_goals
     first
      | (go_ret;exact⟨rfl,l.o.below⟩)
      | (exfalso;omega)
   ·have bT:((gs.length:Int) != (rs.length:Int))=true:=by rw[DW];omega
    clear ab hq;go_wp2
    all_goals
     go_ret
     exact⟨rfl,l.o.below⟩
end Go.Proofs.YtjjbaehamplnaaaGreat
