/- Part of the proofs over this program: Ref7T, CalmN, BldJ, BldK, BldX, Work9, Term9, Decl9, Decls9, CfgName, ShowRule, ShowLev, Prj9, CfgRead, OnP, FuncW, TrimPass. -/
import Derived.Maps.AppendAt
import Derived.Test.YtcgclkndkahgaaaKD
namespace Go.Proofs.Ytcgclkndkahgaaa
set_option maxRecDepth 100000
set_option maxHeartbeats 40000000
open Go.RowKit
theorem zeu (A:Option Addr) (c:Nat) (L:List Int) (xs:List Tok) (w:World) (hr:RdB w w.heap.size A L) (hl:K.Bytes L) (hc:L.length≤c) (hn:L.length≤2000) (hx:zf7 L=.ok xs) :
  Calls Try.prog 34 #[.slice A L.length c] w (zgy L (.ok xs) w):=by
 have HSK:=aA (fun(w1:World) (h:Below w.heap.size w w1) (k:Nat) (hk:k<L.length) (he:(T.piece (L.drop k)).2.2=0)=>zev A c w.heap.size L k w1 (hr.below h (Nat.le_refl _)) hl hc (by omega) hk he)
 have HON:=aA (fun(w1:World) (h:Below w.heap.size w w1) (k:Nat) (hk:k<L.length) (he:(T.piece (L.drop k)).2.2=0) (hx:(T.piece (L.drop k)).1≠0)=>zfo A c L k w1 (hr.up h) hl hc hn hk he hx)
 have HAT:=aA (fun(w1:World) (h:Below w.heap.size w w1)=>zb1 A c w.heap.size L L.length w1 (hr.below h (Nat.le_refl _)) hn (Nat.le_refl _))
 have HFN:=aA (fun(k:Nat) (hk:k<L.length)=>T.piece_fine (L.drop k) (by rw[List.length_drop];omega) (hl.drop k))
 have HX:=aA hx
 have HB0:Hid (Below w.heap.size w w):=aA (Below.refl _ _)
 have SC:=fun a w m X Y=>show(store a (.complex .f64 X Y) m).run Try.prog w=stored Try.prog w a (.complex .f64 X Y) m from run_store _ w a _ m rfl
 clear hr hl hx
 go_enter Try.func34,Try.ntmps34
 go_wp2
 go_loopw [5,6,7] (fun v vk vm wr=>∃(f k m:Nat) (acc:List Tok),vk=.int .i64 k∧vm=.int .i64 m∧k≤L.length∧m≤2∧L.length<k+f∧acc.length≤k∧aZ L wr w.heap.size v acc∧Below w.heap.size w wr∧zeb f (L.drop k) k m acc=.ok xs) (fun _ vk _ _=>L.length-(intOf vk).toNat)
 case atStart=>exact⟨L.length+1,0,0,[],rfl,rfl,by omega,by omega,by omega,by simp,aZ.nil _ _ _,HB0.out,by have:=HX.out;unfold zf7 at this;simpa using this⟩
 case round =>
  clear HX HB0
  obtain⟨f,k,m,acc,rfl,rfl,hk,hmk,hf,hacc,ho,hb,hsc⟩:=hrel
  have HO:=aA ho
  have HB:=aA hb
  have HSC:=aA hsc
  have HMK:=aA hmk
  obtain⟨A0,c0,rfl,hq1,hq2⟩:=ho.form
  clear ho hb hsc hmk hq1 hq2
  by_cases hend:L.length≤k∨2≤m
  ·have hmb:=HMK.out
   have hxs:xs=acc:=by
    have:=HSC.out
    rw[zdx _ _ _ _ _ (by rw[List.length_drop];omega)]at this
    injection this with this
    exact this.symm
   subst hxs
   have HATw:=aA (HAT.out wr HB.out)
   rw[List.take_length]at HATw
   clear HAT HSK HON HFN HSC
   by_cases hlt:k<L.length
   ·have hm2:¬(m:Int)<2:=by omega
    clear hend
    go_wp2_with fail
    refine(HATw.out).mono ?_;rintro _ w' ⟨rfl,rfl⟩
    go_wp2
    go_ret3
    exact⟨_,rfl,HO.out,HB.out⟩
   ·have hlt2:¬(k:Int)<(L.length:Int):=by omega
    clear hend
    go_wp2_with fail
    refine(HATw.out).mono ?_;rintro _ w' ⟨rfl,rfl⟩
    go_wp2
    go_ret3
    exact⟨_,rfl,HO.out,HB.out⟩
  ·have hlt:k<L.length:=by omega
   have hm2:(m:Int)<2:=by omega
   obtain⟨f,rfl⟩:∃f',f=f'+1:=⟨f-1,by omega⟩
   have hne:¬((L.drop k).length=0∨m=2):=by rw[List.length_drop];omega
   have he:(T.piece (L.drop k)).2.2=0:=by
    by_cases h:(T.piece (L.drop k)).2.2=0
    ·exact h
    ·have:=HSC.out
     rw[zdy _ _ _ _ _ hne h]at this
     cases this
   have hso:=HSC.out
   rw[zet _ _ _ _ _ hne he,List.drop_drop]at hso
   have hfine:=HFN.out k hlt
   obtain⟨h1,h2,h3,_,_,_⟩:=hfine
   obtain⟨h4,h5,_,_⟩:=h1 he
   rw[List.length_drop]at h5
   have HSKw:=aA (HSK.out wr HB.out k hlt he)
   have HONw:=aA (HON.out wr HB.out k hlt he)
   clear HSK HON HFN HAT HSC h1 hne hend
   unfold zc3 at HONw
   generalize T.piece (L.drop k)=x at *
   obtain⟨xk,xn,xe⟩:=x
   simp only at he h2 h3 h4 h5
   subst he
   have HSO:=aA hso
   clear hso
   by_cases hk0:xk=0
   ·subst hk0
    have hv:zbO k (0,xn,0)=.tuple #[.int .i64 ((k+xn:Nat):Int),.bool true]:=rfl
    rw[hv]at HSKw
    have HS2:Hid (zeb f (L.drop (k+xn)) (k+xn) m acc=.ok xs):=aA HSO.out
    have hpos:¬((k+xn:Nat):Int)<0:=by omega
    clear hv HSO HONw
    generalize hj:k+xn=j at *
    have HJ:=aA hj
    clear hj
    go_wp2_with fail
    refine HSKw.out.mono ?_;rintro _ w' ⟨rfl,rfl⟩
    go_wp2
    go_roundw
    case rel=>exact⟨f,j,m,acc,rfl,rfl,by have:=HJ.out;omega,HMK.out,by have:=HJ.out;omega,by have:=HJ.out;omega,HO.out,HB.out,HS2.out⟩
    case measure=>have:=HJ.out;simp[intOf];omega
   ·have hv:zbO k (xk,xn,0)=.tuple #[.int .i64 k,.bool false]:=zdu hk0
    rw[hv]at HSKw
    have HO1:=aA (HONw.out hk0)
    simp only at HO1
    have HMR:Hid (more acc k (xk,xn,0) (L.drop k)=acc++[⟨xk,aP xk ((L.drop k).take xn),k⟩]):=aA (by unfold more;rw[if_neg hk0])
    rw[HMR.out]at HSO
    have hpos:¬((k:Nat):Int)<0:=by omega
    clear hv HONw HMR hk0
    go_wp2_with fail
    refine HSKw.out.mono ?_;rintro _ w' ⟨rfl,rfl⟩
    go_wp2_with fail
    refine HO1.out.mono ?_;rintro _ w2 ⟨rfl,hb2⟩
    have HB2:=aA (HB.out.trans (hb2.mono HB.out.size))
    have HO2:=aA (HO.out.below hb2 (Nat.le_refl _))
    clear hb2 HO1 HSKw HO HB
    have HCE:Hid (∀o j u,(zaz L ⟨xk,aP xk ((L.drop k).take xn),k⟩)[j]?=some u→((w2.alloc o).alloc (.cells #[.int .i64 xk,.string (K.str (aP xk ((L.drop k).take xn))),.complex .f64 (Fl.fl (Pl.pos (L.take k)).1) (Fl.fl (Pl.pos (L.take k)).2)] 104)).cell? ⟨w2.heap.size+1,j,none⟩=some u):=aA (by
     intro o j u hu
     have e:w2.heap.size+1=(w2.alloc o).heap.size:=by simp
     rw[e,World.cell?_alloc_new]
     simpa[zaz] using hu)
    have HGW:=aA (fun o1 o2=>(HB2.out.alloc HB2.out.size o1).alloc (by have:=HB2.out.size;simp;omega) o2)
    rcases hk9:(xk==9) with _|_
    ·have HMK2:Hid (zba m (xk,xn,0)=m):=aA (by unfold zba;rw[if_neg (by simpa using hk9)])
     rw[HMK2.out]at HSO
     go_wp2_with (at_builtin;refine ze6 rfl (.tmp 54) (.tmp 56) _ rfl Try.underlying71 L w.heap.size _ acc rfl ((HO2.out.alloc _).alloc _) _ 1 ⟨xk,aP xk ((L.drop k).take xn),k⟩ rfl (HCE.out _) (by omega) (by have:=HB2.out.size;simp;omega) ?_;intro v3 w3 ho3 hg3)
     have HB3:=aA (zbj (HGW.out _ _) ((HO2.out.alloc _).alloc _) hg3 (by have:=HB2.out.size;simp;omega))
     have HO3:=aA ho3
     clear ho3 hg3
     go_roundw
     case rel=>exact⟨f,k+xn,m,acc++[⟨xk,aP xk ((L.drop k).take xn),k⟩],by go_num,rfl,by omega,by have:=HMK.out;omega,by omega,by simp;omega,HO3.out,HB3.out,HSO.out⟩
     case measure=>simp[intOf];omega
    ·have HMK2:Hid (zba m (xk,xn,0)=m+1):=aA (by unfold zba;rw[if_pos (by simpa using hk9)])
     rw[HMK2.out]at HSO
     go_wp2_with (at_builtin;refine ze6 rfl (.tmp 54) (.tmp 56) _ rfl Try.underlying71 L w.heap.size _ acc rfl ((HO2.out.alloc _).alloc _) _ 1 ⟨xk,aP xk ((L.drop k).take xn),k⟩ rfl (HCE.out _) (by omega) (by have:=HB2.out.size;simp;omega) ?_;intro v3 w3 ho3 hg3)
     have HB3:=aA (zbj (HGW.out _ _) ((HO2.out.alloc _).alloc _) hg3 (by have:=HB2.out.size;simp;omega))
     have HO3:=aA ho3
     clear ho3 hg3
     go_roundw
     case rel=>exact⟨f,k+xn,m+1,acc++[⟨xk,aP xk ((L.drop k).take xn),k⟩],by go_num,by go_num,by omega,by have:=HMK.out;omega,by omega,by simp;omega,HO3.out,HB3.out,HSO.out⟩
     case measure=>simp[intOf];omega
end Go.Proofs.Ytcgclkndkahgaaa
namespace Go.CalmN
open Go.RowKit
section
variable {P:Program} {ops:Array Oper} {Q:Exit→Act→World→Prop} {md:Region.Mode}
def plainB:Op→Bool
 | .move _ | .assign _ | .pick .. | .load .. | .convert .. | .binOp .. | .unOp .. | .slice .. | .fieldAddr .. | .field .. | .indexAddr .. | .index .. | .extract .. | .build .. | .nilCheck _ | .lookup ..=>true
 | .call c=>match c.callee with
  | .builtin .len | .builtin .cap=>true
  | _=>false
 | _=>false
theorem value_of {s:Sem Value} {w w':World} {n:Next} (h:((do pure (.value (←s))):Sem Next).run P w=.ok n w'):∃u,n=.value u:=by
 rw[Sem.run_bind]at h
 cases hs:s.run P w with
 | ok v w1=>rw[hs]at h;simp[Result.andThen,Sem.run_pure]at h;exact⟨v,h.1.symm⟩
 | halt x w1=>rw[hs]at h;simp[Result.andThen]at h
theorem zbr {α:Type} {w w':World} {n:α} (h:(runtimePanic .nilDeref:Sem α).run P w=.ok n w'):False:=by
 simp[runtimePanic,Result.andThen]at h
theorem plain_value {o:Oper} (hp:plainB o.op=true) {a:Act} {w w':World} {n:Next} (h:(execOp a.eval o).run P w=.ok n w'):∃u,n=.value u:=by
 obtain⟨dst,op,type,pos,after,guard⟩:=o
 cases op with
 | call c =>
  obtain⟨callee,args,ats⟩:=c
  cases callee with
  | builtin b =>
   cases b with
   | len=>exact value_of (s:=Builtin.len_ ats type (args.map a.eval)) h
   | cap=>exact value_of (s:=Builtin.cap_ ats type (args.map a.eval)) h
   | _=>exact absurd hp (by simp[plainB])
  | invoke recv name=>exact absurd hp (by simp[plainB])
  | value f=>exact absurd hp (by simp[plainB])
 | move x=>simp[execOp,Sem.run_pure]at h;exact⟨_,h.1.symm⟩
 | assign x=>simp[execOp,Sem.run_pure]at h;exact⟨_,h.1.symm⟩
 | pick c x y =>
  simp only[execOp,Sem.run_bind]at h
  cases hs:(asBool (a.eval c)).run P w with
  | ok v w1=>rw[hs]at h;simp[Result.andThen,Sem.run_pure]at h;exact⟨_,h.1.symm⟩
  | halt x w1=>rw[hs]at h;simp[Result.andThen]at h
 | nilCheck x =>
  simp only[execOp]at h
  split at h
  ·exact(zbr h).elim
  ·exact(zbr h).elim
  ·exact(zbr h).elim
  ·split at h
   ·exact(zbr h).elim
   ·simp only[Sem.run_bind]at h
    generalize (program:Sem Program).run P w=r1 at h
    cases r1 with
    | halt x w1=>simp[Result.andThen]at h
    | ok pr w1 =>
     simp only[Result.andThen_ok]at h
     revert h
     generalize (nilAhead _ _ _ _).run P w1=r2
     intro h
     cases r2 with
     | halt x w1=>simp[Result.andThen]at h
     | ok b w2 =>
      simp only[Result.andThen_ok]at h
      split at h
      ·simp[Result.andThen]at h
      ·simp[Sem.run_pure]at h;exact⟨_,h.1.symm⟩
   ·simp[Sem.run_pure]at h;exact⟨_,h.1.symm⟩
  ·simp[Sem.run_pure]at h;exact⟨_,h.1.symm⟩
 | _=>first
  | (simp[plainB]at hp;done)
  | exact value_of h
theorem yieldsIf_of {S:World→Prop} {o:Oper} {a:Act} {v:Value} (hp:plainB o.op=true) (hw:Region.wanted o (yielded ops a.tmps)=true) (h:∀w,S w→o.quietAt P a S w v):YieldsIf P ops S o v a:=by
 refine .inl ⟨hw,fun w hS=>?_⟩
 have h1:=h w hS
 unfold Oper.quietAt at h1
 cases hr:(execOp a.eval o).run P w with
 | ok n w' =>
  obtain⟨u,rfl⟩:=plain_value hp hr
  rw[hr]at h1
  simp only[Oper.quietUpon]at h1
  rw[h1.1,h1.2]
 | halt x w'=>rw[hr]at h1;simp[Oper.quietUpon]at h1
def pickOps (ops:Array Oper):List Nat→List Oper
 | []=>[]
 | i::r=>match ops[i]? with
  | some o=>o::pickOps ops r
  | none=>pickOps ops r
def marked:List Nat→Array Bool→Array Bool
 | [],l=>l
 | i::r,l=>marked r (l.setIfInBounds i true)
def stillB (md:Region.Mode) (ops:Array Oper):List Nat→Array Bool→Bool
 | [],_=>true
 | i::r,l=>(match ops[i]? with|some o=>plainB o.op|none=>false)&&Region.free md ops l i&&(Region.ready md ops l).contains i&&stillB md ops r (l.setIfInBounds i true)
theorem anyH_mono {S S':World→Prop} (h:∀x,S' x→S x):∀(fuel:Nat) (listed:Array Bool) (a:Act) (w:World),wpAnyH P md ops Q S' fuel listed a w→wpAnyH P md ops Q S fuel listed a w
 | 0,_,_,_,k=>k
 | fuel+1,_,_,_,k=>⟨k.1,fun i hi=>wpOp_mono (fun a w hk=>⟨h _ hk.1,anyH_mono h fuel _ a w hk.2⟩) (k.2 i hi)⟩
theorem still_block {S:World→Prop} (hs:Region.noSelect ops=true) (hQ:∀c a d v w,Q (.panic c) (a.put d v) w→Q (.panic c) a w) {w:World} (hS:S w) (fuel:Nat) :
  ∀(p:List Nat) (listed:Array Bool) (a:Act),stillB md ops p listed=true →
   wpQuiet P ops S (fun a'=>wpAnyH P md ops Q S fuel (marked p listed) a' w) (pickOps ops p) a→wpAnyH P md ops Q S (p.length+fuel) listed a w
 | [],_,_,_,h=>by rw[List.length_nil,Nat.zero_add];exact h
 | i::r,listed,a,hb,h=>by
  unfold stillB at hb
  cases ho:ops[i]? with
  | none=>rw[ho]at hb;simp at hb
  | some o =>
   rw[ho]at hb
   simp only[Bool.and_eq_true]at hb
   obtain⟨⟨⟨hp,hf⟩,hr⟩,hrest⟩:=hb
   have hl:pickOps ops (i::r)=o::pickOps ops r:=by simp only[pickOps,ho]
   rw[hl]at h
   rw[show(i::r).length+fuel=(r.length+fuel)+1 by rw[List.length_cons];omega]
   unfold wpQuiet at h
   by_cases hw:Region.wanted o (yielded ops a.tmps)=true
   ·rw[if_pos hw]at h
    obtain⟨v,h1,h2⟩:=h
    exact wpAnyH_take ho hs hf hr (fun c a w=>hQ c a o.dst v w) (yieldsIf_of hp hw h1) hS (still_block hs hQ hS fuel r _ _ hrest h2)
   ·rw[if_neg hw]at h
    exact wpAnyH_take ho hs hf hr (fun c a w=>hQ c a o.dst undef w) (.inr ⟨by simpa using hw,rfl⟩) hS (still_block hs hQ hS fuel r _ _ hrest h)
end
section
variable {P:Program} {ops:Array Oper} {Q:Exit→Act→World→Prop} {md:Region.Mode}
inductive Ph where
 | fin (last:List Nat)
 | one (p:List Nat) (k:Nat) (t:Ph)
 | two (p:List Nat) (k:Nat) (t:Ph) (k2:Nat) (t2:Ph)
def wpSt (P:Program) (ops:Array Oper) (Q:Exit→Act→World→Prop) (o:Option Oper) (S:World→Prop) (T:(World→Prop)→Act→World→Prop) (a:Act) (w:World):Prop :=
 match o with
 | none=>True
 | some o=>∀K:Act→World→Prop,(∀a2 w2,S w2→∀S':World→Prop,(∀x,S' x→S x)→S' w2→T S' a2 w2→K a2 w2) →
   if Region.wanted o (yielded ops a.tmps)=true then Oper.wp P o a w K Q else K (a.put o.dst undef) w
def wpT (P:Program) (ops:Array Oper) (Q:Exit→Act→World→Prop):Ph→(World→Prop)→Act→World→Prop
 | .fin last,S,a,w=>wpQuiet P ops S (fun a'=>Q .normal a' w) (pickOps ops last) a
 | .one p k t,S,a,w=>wpQuiet P ops S (fun a'=>wpSt P ops Q ops[k]? S (fun S' a2 w2=>wpT P ops Q t S' a2 w2) a' w) (pickOps ops p) a
 | .two p k t k2 t2,S,a,w=>wpQuiet P ops S (fun a'=>wpSt P ops Q ops[k]? S (fun S' a2 w2=>wpT P ops Q t S' a2 w2) a' w∧wpSt P ops Q ops[k2]? S (fun S' a2 w2=>wpT P ops Q t2 S' a2 w2) a' w) (pickOps ops p) a
def tB (md:Region.Mode) (ops:Array Oper):Ph→Array Bool→Nat→Bool
 | .fin last,l,n=>stillB md ops last l&&(Region.ready md ops (marked last l)).isEmpty&&(last.length==n)
 | .one p k t,l,n=>stillB md ops p l&&(match Region.ready md ops (marked p l) with | [j]=>j==k|_=>false)&&(ops[k]?).isSome&&decide (p.length+1≤n)&&tB md ops t ((marked p l).setIfInBounds k true) (n-(p.length+1))
 | .two p k t k2 t2,l,n=>stillB md ops p l&&(match Region.ready md ops (marked p l) with | [j,j2]=>j==k&&j2==k2|_=>false)&&(ops[k]?).isSome&&(ops[k2]?).isSome&&decide (p.length+1≤n)&&tB md ops t ((marked p l).setIfInBounds k true) (n-(p.length+1))&&tB md ops t2 ((marked p l).setIfInBounds k2 true) (n-(p.length+1))
theorem quiet_mono {S:World→Prop} {Q1 Q2:Act→Prop} (h:∀a,Q1 a→Q2 a):∀ {l:List Oper} {a:Act},wpQuiet P ops S Q1 l a→wpQuiet P ops S Q2 l a
 | [],_,k=>h _ k
 | o::r,a,k=>by
  unfold wpQuiet at k ⊢
  split
  ·rename_i hw;rw[if_pos hw]at k;obtain⟨v,h1,h2⟩:=k;exact⟨v,h1,quiet_mono h h2⟩
  ·rename_i hw;rw[if_neg hw]at k;exact quiet_mono h k
theorem any_of_t (hs:Region.noSelect ops=true) (hQ:∀c a d v w,Q (.panic c) (a.put d v) w→Q (.panic c) a w) :
  ∀(t:Ph) (S:World→Prop) (listed:Array Bool) (a:Act) (w:World) (n:Nat),tB md ops t listed n=true→S w→wpT P ops Q t S a w→wpAnyH P md ops Q S n listed a w
 | .fin last,S,listed,a,w,n,hb,hS,h=>by
  unfold tB at hb
  simp only[Bool.and_eq_true,List.isEmpty_iff,beq_iff_eq]at hb
  obtain⟨⟨h1,h2⟩,rfl⟩:=hb
  have e:last.length=last.length+0:=rfl
  rw[e]
  refine still_block hs hQ hS 0 last listed a h1 ?_
  exact quiet_mono (fun a' hq=>wpAnyH_done h2 hq 0) h
 | .one p k t,S,listed,a,w,n,hb,hS,h=>by
  unfold tB at hb
  simp only[Bool.and_eq_true,decide_eq_true_iff]at hb
  obtain⟨⟨⟨⟨h1,h2⟩,h3⟩,h5⟩,h4⟩:=hb
  obtain⟨o,ho⟩:=Option.isSome_iff_exists.1 h3
  have hrd:Region.ready md ops (marked p listed)=[k]:=by
   split at h2
   ·rename_i j hj;rw[hj];rw[beq_iff_eq]at h2;rw[h2]
   ·cases h2
  obtain⟨m,rfl⟩:∃m,n=p.length+(m+1):=⟨n-(p.length+1),by omega⟩
  rw[show p.length+(m+1)-(p.length+1)=m by omega]at h4
  refine still_block hs hQ hS _ p listed a h1 ?_
  unfold wpT at h
  refine quiet_mono (fun a' hq=>?_) h
  refine wpAnyH_all hrd (by simp) fun i hi=>?_
  rw[List.mem_singleton]at hi
  subst hi
  refine wpOp_step ho fun K' hK=>?_
  rw[ho]at hq
  refine hq K' fun a2 w2 h6 S' hS' hS2 h7=>hK _ _ ⟨h6,?_⟩
  exact anyH_mono hS' _ _ _ _ (any_of_t hs hQ t S' _ a2 w2 _ h4 hS2 h7)
 | .two p k t k2 t2,S,listed,a,w,n,hb,hS,h=>by
  unfold tB at hb
  simp only[Bool.and_eq_true,decide_eq_true_iff]at hb
  obtain⟨⟨⟨⟨⟨⟨h1,h2⟩,h3⟩,h32⟩,h5⟩,h4⟩,h42⟩:=hb
  obtain⟨o,ho⟩:=Option.isSome_iff_exists.1 h3
  obtain⟨o2,ho2⟩:=Option.isSome_iff_exists.1 h32
  have hrd:Region.ready md ops (marked p listed)=[k,k2]:=by
   split at h2
   ·rename_i j j2 hj;rw[hj];simp only[Bool.and_eq_true,beq_iff_eq]at h2;rw[h2.1,h2.2]
   ·cases h2
  obtain⟨m,rfl⟩:∃m,n=p.length+(m+1):=⟨n-(p.length+1),by omega⟩
  rw[show p.length+(m+1)-(p.length+1)=m by omega]at h4 h42
  refine still_block hs hQ hS _ p listed a h1 ?_
  unfold wpT at h
  refine quiet_mono (fun a' hq=>?_) h
  refine wpAnyH_all hrd (by simp) fun i hi=>?_
  rw[ho,ho2]at hq
  rcases List.mem_cons.1 hi with rfl|hi
  ·refine wpOp_step ho fun K' hK=>?_
   refine hq.1 K' fun a2 w2 h6 S' hS' hS2 h7=>hK _ _ ⟨h6,?_⟩
   exact anyH_mono hS' _ _ _ _ (any_of_t hs hQ t S' _ a2 w2 _ h4 hS2 h7)
  ·rw[List.mem_singleton]at hi
   subst hi
   refine wpOp_step ho2 fun K' hK=>?_
   refine hq.2 K' fun a2 w2 h6 S' hS' hS2 h7=>hK _ _ ⟨h6,?_⟩
   exact anyH_mono hS' _ _ _ _ (any_of_t hs hQ t2 S' _ a2 w2 _ h42 hS2 h7)
theorem region_tree {id:Nat} {a:Act} {w:World} {l:List Oper} (S:World→Prop) (t:Ph) (hm:P.follows .mixedOrders=true)
  (hB:(Region.noSelect l.toArray&&tB .any l.toArray t (Array.replicate l.toArray.size false) l.toArray.size)=true)
  (hQ:∀c a d v w,Q (.panic c) (a.put d v) w→Q (.panic c) a w) (hS:S w.drew)
  (h:wpT P l.toArray Q t S a w.drew):(Code.region id l.toArray true).wp P Q a w:=by
 simp only[Bool.and_eq_true]at hB
 refine wp_region_held (S:=S) hm ?_
 exact any_of_t hB.1 hQ t S _ a w.drew _ hB.2 hS h
end
end Go.CalmN
namespace Go.Proofs.Ytcgclkndkahgaaa
set_option maxRecDepth 100000
set_option maxHeartbeats 40000000
open Go.RowKit
def zgA (L:List Int) (w:World) (B:Nat) (A:Option Addr) (ps:List Y.Prd):Prop :=
 ps.length≠0→∃g o,A=some ⟨g,o,none⟩∧g<B∧∀i (h:i<ps.length),w.cell? ⟨g,o+i*5,none⟩=some (.string (K.str ps[i].l.t))∧w.cell? ⟨g,o+i*5+1,none⟩=some (.complex .f64 (rfX L ps[i].l) (rfY L ps[i].l))∧(∃A' c',w.cell? ⟨g,o+i*5+2,none⟩=some (.slice A' ps[i].r.length c')∧zgz L w B A' ps[i].r)∧w.cell? ⟨g,o+i*5+3,none⟩=some (.string (soS ps[i].p))∧w.cell? ⟨g,o+i*5+4,none⟩=some (.complex .f64 (soX L ps[i].p) (soY L ps[i].p))
theorem zgA.keep {L:List Int} {w w':World} {B:Nat} {A:Option Addr} {xs:List Y.Prd} (h:zgA L w B A xs) (hb:Below B w w'):zgA L w' B A xs:=fun hn=>by
 obtain⟨g,o,e,hg,hc⟩:=h hn
 refine⟨g,o,e,hg,fun i hi=>?_⟩
 obtain⟨h1,h2,⟨A',c',h3,h4⟩,h5,h6⟩:=hc i hi
 exact⟨(hb.cell (p:=⟨g,o+i*5,none⟩) hg).trans h1,(hb.cell (p:=⟨g,o+i*5+1,none⟩) hg).trans h2,⟨A',c',(hb.cell (p:=⟨g,o+i*5+2,none⟩) hg).trans h3,h4.keep hb⟩,(hb.cell (p:=⟨g,o+i*5+3,none⟩) hg).trans h5,(hb.cell (p:=⟨g,o+i*5+4,none⟩) hg).trans h6⟩
theorem zeM {ts:List Gm.Tm} {ns ns':List (List Int)} {x:Tok} (h:Gm.left1 ts ns x=.ok ns') (hl:ns.length≤16):ns'.length≤16:=by
 rcases Gm.left1_ok h with⟨rfl,_⟩|⟨rfl,_,_,h4⟩
 ·exact hl
 ·rw[List.length_append,List.length_singleton];omega
theorem zdZ {ts:List Gm.Tm} {ns:List (List Int)} {ps:List Y.Prd} {i:Nat} (h:i<ps.length):Gm.lefts ts ns (ps.drop i)=(Gm.left1 ts ns ps[i].l).bind fun ns=>Gm.lefts ts ns (ps.drop (i+1)):=by
 rw[List.drop_eq_getElem_cons h,Gm.lefts]
theorem zeL {ts:List Gm.Tm} {ns:List (List Int)} {ps:List Y.Prd} {i:Nat} (h:ps.length≤i):Gm.lefts ts ns (ps.drop i)=.ok ns:=by
 rw[List.drop_eq_nil_of_le h,Gm.lefts]
def zbD (L:List Int) (p:Y.Prd) (A:Option Addr) (c:Nat):Array Value:=#[.string (K.str p.l.t),.complex .f64 (rfX L p.l) (rfY L p.l),.slice A p.r.length c,.string (soS p.p),.complex .f64 (soX L p.p) (soY L p.p)]
theorem zaN {w:World} {o:Oper} {a:Act} {Q:Exit→Act→World→Prop} {K:Act→World→Prop}
  (s x:Operand) (t:TypeId) (ho:o.op=.call {callee:=.builtin .append,args:=#[s,x],argTypes:=#[t,t]}) (ht:Try.prog.underlying t=some (.slice 42))
  (base N:Nat) (v:Value) (rs:List Gm.Rl) (hs:a.eval s=v) (hown:za1 w base N v rs) (g c:Nat) (q:RA) (hx:a.eval x=.slice (some ⟨g,0,none⟩) 1 c) (hz:∀j u,(rlC q)[j]?=some u→w.cell? ⟨g,j,none⟩=some u) (hr:q.1.r.length≤q.2.2∧q.2.2≤9223372036854775807∧zcA w base w.heap.size q.2.1 q.1.r)
  (hlen:rs.length≤1000000) (hbase:base≤w.heap.size) (hN:N≤w.heap.size)
  (hK:∀v' w',za1 w' base w'.heap.size v' (rs++[q.1])→w.grownBy w' v.ownBlock→K (a.put o.dst v') w') :
  o.wp Try.prog a w K Q:=by
 obtain⟨i,hi,hz0,hz1,hz2⟩:=info_parts zgT
 obtain⟨qs,hq1,hq2,hq3,hq4⟩:=hown
 have hlq:qs.length=rs.length:=by rw[←hq1,List.length_map]
 refine wp_append_own w s x t ho base 42 i _ 3 40 ht hi hz0 hz1 hz2 rfl (by decide) v rs.length (zhk qs) hs hq2 ⟨g,0,none⟩ 1 c (rlC q) hx rfl ?_ ?_ (by unfold maxLen;omega) (by omega) hbase fun v' w' h1 h2 _=>hK v' w' ?_ h2
 ·intro j u hj
  rw[zdr,Nat.zero_add]
  exact hz j u hj
 ·intro u hu;simp[rlC]at hu;rcases hu with rfl|rfl|rfl <;> rfl
 ·have hng:∀g',v.ownBlock=some g'→(∀cur,w.heap[g']? ≠ some (.cells cur 3 (0,0)))∨w.heap.size≤g':=fun g' e=>by
   obtain⟨_,cur,hc⟩:=aH hq2 e
   exact .inl (zal hc (by decide))
  refine⟨qs++[q],by rw[List.map_append,hq1];rfl,?_,fun k hk=>?_,fun p hp=>?_⟩
  ·rw[List.length_append]
   unfold zhk
   rw[List.flatMap_append,List.flatMap_singleton]
   exact h1
  ·obtain⟨_,cur,hc⟩:=aH h1 hk
   exact(Array.getElem?_eq_some_iff.1 hc).1
  ·rcases List.mem_append.1 hp with h|h
   ·obtain⟨a1,a2,a3⟩:=hq4 p h
    exact⟨a1,a2,((a3.more hN).grown h2 hng).more h2.size⟩
   ·rw[List.mem_singleton]at h
    subst h
    exact⟨hr.1,hr.2.1,(hr.2.2.grown h2 hng).more h2.size⟩
theorem aK.row {w:World} {base B:Nat} {v:Value} {xs:List Int} (h:aK w base v xs) (hB:B≤base):∃A c,v=.slice A xs.length c∧xs.length≤c∧c≤9223372036854775807∧zcA w B w.heap.size A xs:=by
 rcases h.2 with⟨rfl,h0⟩|⟨g,cap,cur,rfl,hb,hg,hn,hm,hs,ht⟩
 ·exact⟨none,0,by rw[h0],by omega,by omega,fun hc=>absurd h0 hc⟩
 ·refine⟨some ⟨g,0,none⟩,cap,rfl,hn,by unfold maxLen at hm;omega,fun _=>⟨g,cur,rfl,by omega,(Array.getElem?_eq_some_iff.1 hg).1,hg,fun j hj=>?_⟩⟩
  have hq:(cur.toList.take (xs.length*1))[j]?=(xs.map (Value.int .i64))[j]?:=by rw[ht]
  rw[List.getElem?_take_of_lt (by omega),List.getElem?_map,List.getElem?_eq_getElem hj]at hq
  simpa using hq
theorem zby {ns:List (List Int)} {ts:List Gm.Tm} {acc:List Int} {p:Int} {xs:List Tok} {i:Nat} (h:i<xs.length):Gm.rights ns ts acc p (xs.drop i)=if acc.length=6 then .bad xs[i] 5 else(Gm.symR ns ts xs[i]).bind fun q=>Gm.rights ns q.1 (acc++[q.2]) (if 0≤q.2 then q.2 else p) (xs.drop (i+1)):=by
 rw[List.drop_eq_getElem_cons h,Gm.rights]
theorem zbZ {ns:List (List Int)} {ts:List Gm.Tm} {acc:List Int} {p:Int} {xs:List Tok} {i:Nat} (h:xs.length≤i):Gm.rights ns ts acc p (xs.drop i)=.ok (ts,acc,p):=by
 rw[List.drop_eq_nil_of_le h,Gm.rights]
theorem zfO (z:Int) (w:World):(Instr.build 42 #[(0,.int .i64 z),(2,.int .i64 (-1))]).run Try.prog w=.ok (.agg #[.int .i64 z,.slice none 0 0,.int .i64 (-1)]) w:=run_build w 42 _ _ (by kernel_rfl)
theorem zaj {w:World} {base N:Nat} {v:Value} {rs:List Gm.Rl} (h:za1 w base N v rs):∃A c,v=.slice A rs.length c∧rs.length≤c∧c≤maxLen:=by
 obtain⟨qs,_,h2,_⟩:=h
 exact zab h2
theorem zcL {L:List Int} {w:World} {base:Nat} {A:Option Addr} {xs:List Tok} (h:RdR L w base A xs):zgz L w w.heap.size A xs:=fun hn=>by
 obtain⟨g,cur,e,_,hh,_⟩:=h hn
 obtain⟨g',e',_,hc⟩:=h.cell hn
 rw[e]at e'
 injection e' with e'
 injection e' with e'
 subst e'
 refine⟨g,0,e,(Array.getElem?_eq_some_iff.1 hh).1,fun i hi=>⟨?_,?_⟩⟩
 ·have:=hc i 0 _ hi (by omega) rfl
  rw[Nat.zero_add];exact this
 ·have:=hc i 1 _ hi (by omega) rfl
  rw[Nat.zero_add];exact this
theorem zeY {L:List Int} {w:World} {base:Nat} {v:Value} {ds:List Y.Dcl} (h:aU L w base v ds):∃A c,v=.slice A ds.length c∧zgB L w w.heap.size A ds:=by
 have h':=h
 obtain⟨qs,_,h2,_⟩:=h'
 rcases h2.2 with⟨hv,h0⟩|⟨g,cap,cur,hv,_,hg,_⟩
 ·exact⟨none,0,by rw[hv,h0],fun hn=>absurd h0 hn⟩
 ·refine⟨some ⟨g,0,none⟩,cap,hv,fun hn=>⟨g,0,rfl,(Array.getElem?_eq_some_iff.1 hg).1,fun i hi=>?_⟩⟩
  obtain⟨D,c,A,c',hv',k1,k2,k3⟩:=h.at i hi
  rw[hv]at hv'
  injection hv' with e1 e2 e3
  injection e1 with e1
  injection e1 with e1
  subst e1
  rw[Nat.zero_add]
  exact⟨k1,A,c',k2,zcL k3⟩
theorem zeG {L:List Int} {w:World} {base:Nat} {v:Value} {ps:List Y.Prd} (h:aT L w base v ps):∃A c,v=.slice A ps.length c∧zgA L w w.heap.size A ps:=by
 have h':=h
 obtain⟨qs,_,h2,_⟩:=h'
 rcases h2.2 with⟨hv,h0⟩|⟨g,cap,cur,hv,_,hg,_⟩
 ·exact⟨none,0,by rw[hv,h0],fun hn=>absurd h0 hn⟩
 ·refine⟨some ⟨g,0,none⟩,cap,hv,fun hn=>⟨g,0,rfl,(Array.getElem?_eq_some_iff.1 hg).1,fun i hi=>?_⟩⟩
  obtain⟨D,c,A,c',hv',k,k3⟩:=h.at i hi
  rw[hv]at hv'
  injection hv' with e1 e2 e3
  injection e1 with e1
  injection e1 with e1
  subst e1
  rw[Nat.zero_add]
  refine⟨k 0 _ (by omega) rfl,k 1 _ (by omega) rfl,⟨A,c',k 2 _ (by omega) rfl,zcL k3⟩,?_,?_⟩
  ·refine k 3 _ (by omega) ?_
   unfold aL zaR
   rcases ps[i].p with _|x <;> rfl
  ·refine k 4 _ (by omega) ?_
   unfold aL zaR
   rcases ps[i].p with _|x <;> rfl
theorem zdW {w:World} {base N:Nat} {A:Option Addr} {zs:List Int} (h:zcA w base N A zs) (hN:N≤w.heap.size):RdI w w.heap.size A zs:=fun hn=>by
 obtain⟨g,cur,e,_,hg,hh,hc⟩:=h hn
 refine⟨g,0,e,by omega,fun j hj=>?_⟩
 rw[Nat.zero_add,cell_of_row w g _ _ _ _ hh]
 rw[hc j hj]
 simp[List.getD,hj]
theorem zei {w:World} {base:Nat} {v:Value} {ts:List Gm.Tm} (h:zaI w base v ts):∃A c,v=.slice A ts.length c∧(ts.length≤c∧c≤9223372036854775807)∧zfb w w.heap.size A ts:=by
 have h0:=h
 unfold zaI at h0
 rcases h0.2 with⟨hv,h1⟩|⟨g,cap,cur,hv,_,hg,hn,hm,_⟩
 ·exact⟨none,0,by rw[hv,h1],by omega,fun hn=>absurd h1 hn⟩
 ·refine⟨some ⟨g,0,none⟩,cap,hv,⟨hn,by unfold maxLen at hm;omega⟩,fun _=>⟨g,0,rfl,(Array.getElem?_eq_some_iff.1 hg).1,fun i hi=>?_⟩⟩
  subst hv
  have k:=fun(j:Nat) (u:Value) (hj:j<3) (hu:(tmC ts[i])[j]?=some u)=>World.ownsRow.cells h0 (g:=g) rfl (i*3+j) u (by unfold zeh;rw[zbl tmC (fun _=>rfl) ts i j hi hj];exact hu)
  have k0:=k 0 _ (by omega) rfl
  have k1:=k 1 _ (by omega) rfl
  have k2:=k 2 _ (by omega) rfl
  rw[zdr,Nat.zero_add]at k0 k1 k2
  rw[Nat.zero_add]
  exact⟨k0,k1,k2⟩
theorem zfF {w:World} {base:Nat} {v:Value} {ns:List (List Int)} (h:a7 w base v ns):∃A c,v=.slice A ns.length c∧(ns.length≤c∧c≤9223372036854775807)∧RdN w w.heap.size A ns:=by
 have h0:=h
 unfold a7 at h0
 rcases h0.2 with⟨hv,h1⟩|⟨g,cap,cur,hv,_,hg,hn,hm,_⟩
 ·exact⟨none,0,by rw[hv,h1],by omega,fun hn=>absurd h1 hn⟩
 ·refine⟨some ⟨g,0,none⟩,cap,hv,⟨hn,by unfold maxLen at hm;omega⟩,fun _=>⟨g,0,rfl,(Array.getElem?_eq_some_iff.1 hg).1,fun i hi=>?_⟩⟩
  subst hv
  have k:=World.ownsRow.cells h0 (g:=g) rfl i (.string (K.str ns[i])) (by unfold zho;simp[hi])
  rw[zdr,Nat.zero_add]at k
  rw[Nat.zero_add]
  exact k
theorem zex {w:World} {base N:Nat} {v:Value} {rs:List Gm.Rl} (h:za1 w base N v rs) (hN:N≤w.heap.size):∃A c,v=.slice A rs.length c∧(rs.length≤c∧c≤9223372036854775807)∧zc1 w w.heap.size A rs:=by
 obtain⟨qs,rfl,h0,_,hq⟩:=h
 rcases h0.2 with⟨hv,h1⟩|⟨g,cap,cur,hv,_,hg,hn,hm,_⟩
 ·exact⟨none,0,by rw[hv,h1],by omega,fun hn=>absurd h1 hn⟩
 ·refine⟨some ⟨g,0,none⟩,cap,hv,⟨hn,by unfold maxLen at hm;omega⟩,fun _=>⟨g,0,rfl,(Array.getElem?_eq_some_iff.1 hg).1,fun i hi=>?_⟩⟩
  subst hv
  have hi':i<qs.length:=by simpa using hi
  have k:=fun(j:Nat) (u:Value) (hj:j<3) (hu:(rlC qs[i])[j]?=some u)=>World.ownsRow.cells h0 (g:=g) rfl (i*3+j) u (by unfold zhk;rw[zbl rlC (fun _=>rfl) qs i j hi' hj];exact hu)
  have k0:=k 0 _ (by omega) rfl
  have k1:=k 1 _ (by omega) rfl
  have k2:=k 2 _ (by omega) rfl
  rw[zdr,Nat.zero_add]at k0 k1 k2
  rw[Nat.zero_add]
  obtain⟨q1,q2,q3⟩:=hq qs[i] (List.getElem_mem hi')
  simp only[List.getElem_map]
  exact⟨k0,⟨_,_,k1,q1,q2,zdW q3 hN⟩,k2⟩
def wC (vT vN vR:Value) (lv:Int):Array Value:=#[vT,vN,vR,.int .i64 0,.slice none 0 0,.string ⟨#[]⟩,.complex .f64 0 0,.bool false,.int .i64 lv,.complex .f64 0 0,.int .i64 0]
structure WRaw (w:World) (B N R:Nat) (cs:Array Value) (vT vN vR:Value) (ts:List Gm.Tm) (ns:List (List Int)) (rs:List Gm.Rl):Prop where
 b:w.heap[R]?=some (.cells cs 79 (0,0))
 t:zaI w B vT ts
 n:a7 w B vN ns
 r:za1 w B N vR rs
 hR:B≤R
structure Off9 (w:World) (N:Nat) (row:Option Nat):Prop where
 h:∀g,row=some g→∃cs T,w.heap[g]?=some (.cells cs T (0,0))∧T≠79∧T≠90∧T≠9∧((T≠42∧T≠3)∨N≤g)
theorem Off9.none (w:World) (N:Nat):Off9 w N .none:=⟨fun _ h=>by cases h⟩
section
variable {w w':World} {B N R:Nat} {cs:Array Value} {vT vN vR:Value} {ts:List Gm.Tm} {ns:List (List Int)} {rs:List Gm.Rl} {row:Option Nat}
theorem WRaw.grown (h:WRaw w B N R cs vT vN vR ts ns rs) (hg:w.grownBy w' row) (ho:Off9 w N row):WRaw w' B N R cs vT vN vR ts ns rs:=by
 have hb:some R≠row:=fun e=>by
  obtain⟨cs,T,h1,h2,_⟩:=ho.h R e.symm
  exact zal h1 h2 _ h.b
 refine⟨(hg.block R (Array.getElem?_eq_some_iff.1 h.b).1 hb).trans h.b,World.ownsRow.kept h.t hg ?_,World.ownsRow.kept h.n hg ?_,h.r.grown hg ?_,h.hR⟩
 ·rcases row with _|g
  ·exact zbF _
  ·obtain⟨cs,T,h1,_,h2,_⟩:=ho.h g rfl
   exact zac h.t h1 (fun cur e=>by injection e with _ e;exact h2 e)
 ·rcases row with _|g
  ·exact zbF _
  ·obtain⟨cs,T,h1,_,_,h2,_⟩:=ho.h g rfl
   exact zac h.n h1 (fun cur e=>by injection e with _ e;exact h2 e)
 ·intro g e
  obtain⟨cs,T,h1,_,_,_,h2⟩:=ho.h g e
  rcases h2 with q|q
  ·exact .inl ⟨zal h1 q.2,zal h1 q.1⟩
  ·exact .inr q
theorem WRaw.below (h:WRaw w B N R cs vT vN vR ts ns rs) (hb:Below w.heap.size w w'):WRaw w' B N R cs vT vN vR ts ns rs:=h.grown (zae hb .none) (Off9.none _ _)
theorem WRaw.alloc (h:WRaw w B N R cs vT vN vR ts ns rs) (o:Obj):WRaw (w.alloc o) B N R cs vT vN vR ts ns rs:=h.grown (World.grownBy_alloc w o .none) (Off9.none _ _)
theorem WRaw.tm_put (h:WRaw w B N R cs vT vN vR ts ns rs) {v':Value} {ts':List Gm.Tm} (ht:zaI w' B v' ts') (hg:w.grownBy w' vT.ownBlock):WRaw w' B N R cs v' vN vR ts' ns rs:=by
 refine⟨zaM h.b h.t (by decide) hg,ht,World.ownsRow.kept h.n hg (za2 h.n h.t (by decide)),h.r.grown hg (fun g e=>.inl ?_),h.hR⟩
 obtain⟨_,cur,hc⟩:=aH h.t e
 exact⟨zal hc (by decide),zal hc (by decide)⟩
theorem WRaw.n_put (h:WRaw w B N R cs vT vN vR ts ns rs) {v':Value} {ns':List (List Int)} (ht:a7 w' B v' ns') (hg:w.grownBy w' vN.ownBlock):WRaw w' B N R cs vT v' vR ts ns' rs:=by
 refine⟨zaM h.b h.n (by decide) hg,World.ownsRow.kept h.t hg (za2 h.t h.n (by decide)),ht,h.r.grown hg (fun g e=>.inl ?_),h.hR⟩
 obtain⟨_,cur,hc⟩:=aH h.n e
 exact⟨zal hc (by decide),zal hc (by decide)⟩
theorem WRaw.r_put {N':Nat} (h:WRaw w B N R cs vT vN vR ts ns rs) {v':Value} {rs':List Gm.Rl} (ht:za1 w' B N' v' rs') (hg:w.grownBy w' vR.ownBlock):WRaw w' B N' R cs vT vN v' ts ns rs':=by
 obtain⟨qs,_,h2,_⟩:=id h.r
 exact⟨zaM h.b h2 (by decide) hg,World.ownsRow.kept h.t hg (za2 h.t h2 (by decide)),World.ownsRow.kept h.n hg (za2 h.n h2 (by decide)),ht,h.hR⟩
theorem WRaw.set (h:WRaw w B N R cs vT vN vR ts ns rs) (j:Nat) (u:Value):WRaw (w.setCell ⟨R,j,none⟩ u) B N R (cs.setIfInBounds j u) vT vN vR ts ns rs:=by
 have hg:w.grownBy (w.setCell ⟨R,j,none⟩ u) (some R):=aD (World.grownBy.refl _ _) j u
 refine⟨heap_setCell_same w R j _ _ u h.b,World.ownsRow.kept h.t hg (zac h.t h.b (fun cur e=>by injection e with _ e;cases e)),World.ownsRow.kept h.n hg (zac h.n h.b (fun cur e=>by injection e with _ e;cases e)),h.r.grown hg (fun g e=>.inl ?_),h.hR⟩
 injection e with e
 subst e
 exact⟨zal h.b (by decide),zal h.b (by decide)⟩
theorem WRaw.more {N':Nat} (h:WRaw w B N R cs vT vN vR ts ns rs) (hN:N≤N'):WRaw w B N' R cs vT vN vR ts ns rs:=⟨h.b,h.t,h.n,h.r.more hN,h.hR⟩
theorem WRaw.at (h:WRaw w B N R cs vT vN vR ts ns rs) (j:Nat):w.cell? ⟨R,j,none⟩=cs[j]?∧w.frozen? ⟨R,j,none⟩=false∧R<w.heap.size :=
 ⟨cell_of_row w R j _ _ _ h.b,frozen_of_row w R j _ _ h.b,(Array.getElem?_eq_some_iff.1 h.b).1⟩
theorem WRaw.lt (h:WRaw w B N R cs vT vN vR ts ns rs):R<w.heap.size:=(Array.getElem?_eq_some_iff.1 h.b).1
theorem WRaw.rd (h:WRaw w B N R cs vT vN vR ts ns rs) (hN:N≤w.heap.size) (z:Int):aS w w.heap.size (.agg #[vT,vN,vR,.int .i64 z]) ⟨ts,ns,rs,z⟩:=by
 obtain⟨AT,cT,rfl,h1,h2⟩:=zei h.t
 obtain⟨AN,cN,rfl,h3,h4⟩:=zfF h.n
 obtain⟨AR,cR,rfl,h5,h6⟩:=zex h.r hN
 exact⟨AT,cT,AN,cN,AR,cR,rfl,h1,h3,h5,h2,h4,h6⟩
end
def KpT (w w':World):Prop:=∀(g:Nat) (cs:Array Value) (T:TypeId),w.heap[g]?=some (.cells cs T (0,0))→T≠79→T≠90→w'.heap[g]?=some (.cells cs T (0,0))
def KpA (w w':World):Prop:=∀(g:Nat) (cs:Array Value) (T:TypeId),w.heap[g]?=some (.cells cs T (0,0))→T≠79→T≠90→T≠9→T≠42→w'.heap[g]?=some (.cells cs T (0,0))
theorem KpT.refl (w:World):KpT w w:=fun _ _ _ h _ _=>h
theorem KpA.refl (w:World):KpA w w:=fun _ _ _ h _ _ _ _=>h
theorem KpT.trans {a b c:World} (h:KpT a b) (k:KpT b c):KpT a c:=fun g cs T h1 h2 h3=>k g cs T (h g cs T h1 h2 h3) h2 h3
theorem KpA.trans {a b c:World} (h:KpA a b) (k:KpA b c):KpA a c:=fun g cs T h1 h2 h3 h4 h5=>k g cs T (h g cs T h1 h2 h3 h4 h5) h2 h3 h4 h5
theorem KpT.a {w w':World} (h:KpT w w'):KpA w w':=fun g cs T h1 h2 h3 _ _=>h g cs T h1 h2 h3
theorem KpT.below {w w':World} (h:Below w.heap.size w w'):KpT w w':=fun g _ _ h1 _ _=>(h.block g (Array.getElem?_eq_some_iff.1 h1).1).trans h1
theorem KpA.below {w w':World} (h:Below w.heap.size w w'):KpA w w':=(KpT.below h).a
theorem KpT.cells {w w':World} {g:Nat} (h:w.grownBy w' (some g)) {T:TypeId} {cs:Array Value} (hg:w.heap[g]?=some (.cells cs T (0,0))) (hT:T=79∨T=90):KpT w w':=fun k cs' T' h1 h2 h3=>by
 refine(h.block k (Array.getElem?_eq_some_iff.1 h1).1 (fun e=>?_)).trans h1
 injection e with e
 subst e
 rw[hg]at h1;injection h1 with h1;injection h1 with _ h1
 rcases hT with q|q
 ·exact h2 (h1.symm.trans q)
 ·exact h3 (h1.symm.trans q)
theorem KpA.cells {w w':World} {g:Nat} (h:w.grownBy w' (some g)) {T:TypeId} {cs:Array Value} (hg:w.heap[g]?=some (.cells cs T (0,0))) (hT:T=79∨T=90∨T=9∨T=42):KpA w w':=fun k cs' T' h1 h2 h3 h4 h5=>by
 refine(h.block k (Array.getElem?_eq_some_iff.1 h1).1 (fun e=>?_)).trans h1
 injection e with e
 subst e
 rw[hg]at h1;injection h1 with h1;injection h1 with _ h1
 rcases hT with q|q|q|q
 ·exact h2 (h1.symm.trans q)
 ·exact h3 (h1.symm.trans q)
 ·exact h4 (h1.symm.trans q)
 ·exact h5 (h1.symm.trans q)
theorem KpT.own {w w':World} {base size n:Nat} {v:Value} {xs:List Value} (ho:w.ownsRow base 90 size v n xs) (h:w.grownBy w' v.ownBlock):KpT w w':=by
 rcases hv:v.ownBlock with _|k
 ·rw[hv]at h;exact fun g _ _ h1 _ _=>(h.block g (Array.getElem?_eq_some_iff.1 h1).1 (by simp)).trans h1
 ·rw[hv]at h
  obtain⟨_,cur,hc⟩:=aH ho hv
  exact KpT.cells h hc (.inr rfl)
theorem KpA.own {w w':World} {base size n:Nat} {v:Value} {xs:List Value} {e:TypeId} (ho:w.ownsRow base e size v n xs) (h:w.grownBy w' v.ownBlock) (he:e=90∨e=9∨e=42):KpA w w':=by
 rcases hv:v.ownBlock with _|k
 ·rw[hv]at h;exact fun g _ _ h1 _ _ _ _=>(h.block g (Array.getElem?_eq_some_iff.1 h1).1 (by simp)).trans h1
 ·rw[hv]at h
  obtain⟨_,cur,hc⟩:=aH ho hv
  exact KpA.cells h hc (.inr he)
theorem KpT.set {w:World} {B N R:Nat} {cs:Array Value} {vT vN vR:Value} {ts:List Gm.Tm} {ns:List (List Int)} {rs:List Gm.Rl} (h:WRaw w B N R cs vT vN vR ts ns rs) (j:Nat) (u:Value):KpT w (w.setCell ⟨R,j,none⟩ u):=KpT.cells (aD (World.grownBy.refl w (some R)) j u) h.b (.inl rfl)
def Wk (w:World) (B N R:Nat) (ts:List Gm.Tm) (ns:List (List Int)) (rs:List Gm.Rl) (lv:Int):Prop:=∃vT vN vR,WRaw w B N R (wC vT vN vR lv) vT vN vR ts ns rs
theorem Wk.below {w w':World} {B N R:Nat} {ts:List Gm.Tm} {ns:List (List Int)} {rs:List Gm.Rl} {lv:Int} (h:Wk w B N R ts ns rs lv) (hb:Below w.heap.size w w'):Wk w' B N R ts ns rs lv:=by
 obtain⟨vT,vN,vR,h⟩:=h;exact⟨vT,vN,vR,h.below hb⟩
theorem Wk.alloc {w:World} {B N R:Nat} {ts:List Gm.Tm} {ns:List (List Int)} {rs:List Gm.Rl} {lv:Int} (h:Wk w B N R ts ns rs lv) (o:Obj):Wk (w.alloc o) B N R ts ns rs lv:=by
 obtain⟨vT,vN,vR,h⟩:=h;exact⟨vT,vN,vR,h.alloc o⟩
theorem Wk.more {w:World} {B N N' R:Nat} {ts:List Gm.Tm} {ns:List (List Int)} {rs:List Gm.Rl} {lv:Int} (h:Wk w B N R ts ns rs lv) (hN:N≤N'):Wk w B N' R ts ns rs lv:=by
 obtain⟨vT,vN,vR,h⟩:=h;exact⟨vT,vN,vR,h.more hN⟩
theorem Wk.lt {w:World} {B N R:Nat} {ts:List Gm.Tm} {ns:List (List Int)} {rs:List Gm.Rl} {lv:Int} (h:Wk w B N R ts ns rs lv):R<w.heap.size∧B≤R:=by
 obtain⟨vT,vN,vR,h⟩:=h;exact⟨h.lt,h.hR⟩
end Go.Proofs.Ytcgclkndkahgaaa
namespace Go.Proofs.Ytcgclkndkahgaaa
set_option maxRecDepth 100000
set_option maxHeartbeats 40000000
open Go.RowKit
theorem ze1 (s:ByteArray) (w:World):(Instr.build 90 #[(0,.string s)]).run Try.prog w=.ok (.agg #[.string s,.int .i64 0,.int .i64 0]) w:=run_build w 90 _ _ (by kernel_rfl)
theorem ze5 {w:World} {o:Oper} {a:Act} {KK:Act→World→Prop} {Q:Exit→Act→World→Prop}
  (s x:Operand) (t:TypeId) (ho:o.op=.call {callee:=.builtin .append,args:=#[s,x],argTypes:=#[t,t]}) (ht:Try.prog.underlying t=some (.slice 90))
  (base:Nat) (v:Value) (ts:List Gm.Tm) (hs:a.eval s=v) (hown:zaI w base v ts) (g c:Nat) (y:Gm.Tm) (hx:a.eval x=.slice (some ⟨g,0,none⟩) 1 c) (hz:∀j,w.cell? ⟨g,j,none⟩=(tmC y)[j]?)
  (hlen:ts.length≤1000000) (hbase:base≤w.heap.size)
  (hK:∀v' w',zaI w' base v' (ts++[y])→w.grownBy w' v.ownBlock→KK (a.put o.dst v') w') :
  o.wp Try.prog a w KK Q:=by
 obtain⟨i,hi,hz0,hz1,hz2⟩:=info_parts zgR
 refine wp_append_own w s x t ho base 90 i _ 3 32 ht hi hz0 hz1 hz2 rfl (by decide) v ts.length (zeh ts) hs hown ⟨g,0,none⟩ 1 c (tmC y) hx rfl ?_ ?_ (by unfold maxLen;omega) (by omega) hbase fun v' w' h1 h2 _=>hK v' w' ?_ h2
 ·intro j u hj
  rw[zdr,Nat.zero_add]
  exact(hz j).trans hj
 ·intro u hu;simp[tmC]at hu;rcases hu with rfl|rfl|rfl <;> rfl
 ·unfold zaI zeh
  rw[List.length_append,List.flatMap_append,List.flatMap_singleton];exact h1
theorem zcC (L:List Int) (B N R:Nat) (ts ts':List Gm.Tm) (ns:List (List Int)) (rs:List Gm.Rl) (lv n:Int) (x:Tok) (w:World) (hw:Wk w B N R ts ns rs lv) (hf:Gm.Fit ⟨ts,ns,rs,0⟩) (hx:K.Tx x.t) (hN:N≤w.heap.size) (hB:B≤w.heap.size) (hp:Gm.put ts x=.ok (ts',n)) (h24:ts.length≤24) :
  Calls Try.prog 82 #[.pointer (some ⟨R,0,none⟩),aY L x] w fun e w'=>e=.returned (.int .i64 n)∧Wk w' B N R ts' ns rs lv∧Below B w w'∧KpT w w':=by
 have HW:=aA hw
 obtain⟨vT,vN,vR,h⟩:=hw
 have HH:=aA h
 obtain⟨AT,cT,rfl,hc1,_⟩:=zab h.t
 obtain⟨AN,cN,rfl,_,_⟩:=zab h.n
 have hr3:∃AR cR,vR=.slice AR rs.length cR:=by obtain⟨qs,_,h2,_⟩:=id h.r;obtain⟨A,c,e,_⟩:=zab h2;exact⟨A,c,e⟩
 obtain⟨AR,cR,rfl⟩:=hr3
 obtain⟨k0,hf0,hRs⟩:=h.at 0
 have k1:=(h.at 1).1
 have k2:=(h.at 2).1
 have k3:=(h.at 3).1
 simp only[wC,List.getElem?_toArray,List.getElem?_cons_zero,List.getElem?_cons_succ]at k0 k1 k2 k3
 have HX:=aA (Below.refl w.heap.size w)
 unfold aY
 obtain⟨w1,hw1⟩:∃y,y=w.alloc (.cells #[.string (K.str x.t),.complex .f64 (Fl.fl (Pl.pos (L.take x.o)).1) (Fl.fl (Pl.pos (L.take x.o)).2)] 77):=⟨_,rfl⟩
 have HB1:Hid (Below w.heap.size w w1):=aA (by rw[hw1];exact(Below.refl _ _).alloc (Nat.le_refl _) _)
 have HR1:Hid (w1.heap[w.heap.size]?=some (.cells #[.string (K.str x.t),.complex .f64 (Fl.fl (Pl.pos (L.take x.o)).1) (Fl.fl (Pl.pos (L.take x.o)).2)] 77 (0,0))):=aA (by rw[hw1];exact heap_alloc_new w _)
 have HT:=aA (fun(y:World) (hb:Below w1.heap.size w1 y)=>zcg (.agg #[.slice AT ts.length cT,.slice AN ns.length cN,.slice AR rs.length cR,.int .i64 0]) ⟨ts,ns,rs,0⟩ x.t w.heap.size y ((h.rd hN 0).below (HB1.out.trans (hb.mono HB1.out.size)) (Nat.le_refl _)) hf hx (Nat.le_trans HB1.out.size hb.size))
 unfold Gm.term at HT
 unfold Gm.put at hp
 have HP:=aA hp
 have HF:=aA hf
 clear hp h hf
 go_enter Try.func82,Try.ntmps82
 go_wp2_with fail
 rw[←hw1]
 clear hw1
 have hk:=HB1.out
 have p0:=(hk.cell (p:=⟨R,0,none⟩) hRs).trans k0
 have p1:=(hk.cell (p:=⟨R,1,none⟩) hRs).trans k1
 have p2:=(hk.cell (p:=⟨R,2,none⟩) hRs).trans k2
 have p3:=(hk.cell (p:=⟨R,3,none⟩) hRs).trans k3
 have hR1:R<w1.heap.size:=Nat.lt_of_lt_of_le hRs hk.size
 have hb1:w.heap.size<w1.heap.size:=(Array.getElem?_eq_some_iff.1 HR1.out).1
 have t0:w1.cell? ⟨w.heap.size,0,none⟩=some (.string (K.str x.t)):=by rw[cell_of_row w1 _ 0 _ _ _ HR1.out];rfl
 have Q0:=fun y:Calm.On w1.heap.size w1=>(y.2.cell (p:=⟨R,0,none⟩) hR1).trans p0
 have Q1:=fun y:Calm.On w1.heap.size w1=>(y.2.cell (p:=⟨R,1,none⟩) hR1).trans p1
 have Q2:=fun y:Calm.On w1.heap.size w1=>(y.2.cell (p:=⟨R,2,none⟩) hR1).trans p2
 have Q3:=fun y:Calm.On w1.heap.size w1=>(y.2.cell (p:=⟨R,3,none⟩) hR1).trans p3
 have Q4:=fun y:Calm.On w1.heap.size w1=>(y.2.cell (p:=⟨w.heap.size,0,none⟩) hb1).trans t0
 clear hk
 refine CalmN.region_tree (fun x=>∃y:Calm.On w1.heap.size w1,x=y.1) (.one [0,1,2,3,4,5] 6 (.fin [7])) (by kernel_rfl) (by kernel_rfl) (fun _ _ d _ _ h=>by cases d <;> exact h) ⟨⟨w1.drew,aB (Below.refl _ _) 1⟩,rfl⟩ ?_
 simp only[CalmN.wpT,CalmN.wpSt,CalmN.pickOps,List.getElem?_toArray,List.getElem?_cons_zero,List.getElem?_cons_succ]
 repeat (go_big_quiet_step (fail))
 refine wpQuiet_nil ?_
 clear Q0 Q1 Q2 Q3 Q4 p0 p1 p2 p3 t0 k0 k1 k2 k3
 intro KK hKK
 rw[if_pos (by rfl)]
 go_wp2_with fail
 refine(HT.out w1.drew (aB (Below.refl _ _) 1)).mono ?_;rintro _ w2 ⟨rfl,hb2⟩
 have hb12:Below w1.heap.size w1 w2:=(aB (Below.refl w1.heap.size w1) 1).trans hb2
 have HB12:=aA hb12
 clear hb2
 go_wp2_with fail
 refine hKK _ _ ⟨⟨w2,hb12⟩,rfl⟩ (fun x=>∃y:Calm.On w1.heap.size w1,x=y.1) (fun _ h=>h) ⟨⟨w2,hb12⟩,rfl⟩ ?_
 repeat (go_big_quiet_step (fail))
 refine wpQuiet_nil ?_
 have HB2:=aA (HB1.out.trans (hb12.mono HB1.out.size))
 have HW2:=aA (HH.out.below HB2.out)
 have HR2:=aA ((hb12.block w.heap.size hb1).trans HR1.out)
 clear hb12 hKK
 by_cases h0:0≤Gm.find (Gm.names ts) x.t
 ·have HE:Hid (ts=ts'∧Gm.find (Gm.names ts) x.t=n):=aA (by have h:=HP.out;rw[if_pos h0]at h;injection h with h;exact⟨congrArg Prod.fst h,congrArg Prod.snd h⟩)
  rw[HE.out.2]at h0 ⊢
  go_wp2
  go_ret
  exact⟨rfl,⟨_,_,_,by rw[←HE.out.1];exact HW2.out⟩,HB2.out.mono hB,KpT.below HB2.out⟩
 ·have HE:Hid (ts++[⟨x.t,0,0⟩]=ts'∧(ts.length:Int)=n∧ts.length≠24):=aA (by
   have h:=HP.out
   rw[if_neg h0]at h
   by_cases h24:ts.length=24
   ·rw[if_pos h24]at h;cases h
   ·rw[if_neg h24]at h;injection h with h;exact⟨congrArg Prod.fst h,congrArg Prod.snd h,h24⟩)
  have hl24:((ts.length:Int)==24)=false:=beq_eq_false_iff_ne.2 (by have:=HE.out.2.2;omega)
  obtain⟨k0,hf0,hR2⟩:=HW2.out.at 0
  simp only[wC,List.getElem?_toArray,List.getElem?_cons_zero]at k0
  generalize Gm.find (Gm.names ts) x.t=z at *
  go_wp2_with fail
  have HR2r:=HR2
  have HB26:=aA (HB2.out.mono hB)
  have HO6:=aA ((HW2.out.alloc (.cells (tmC ⟨x.t,0,0⟩).toArray 90)).t)
  have HB6:Hid (B≤(w2.alloc (.cells (tmC ⟨x.t,0,0⟩).toArray 90)).drew.heap.size):=aA (by have:=HB2.out.size;simp;omega)
  have HCE:=aA (aI w2 (tmC ⟨x.t,0,0⟩) 90)
  have HT6:Hid ((w2.alloc (.cells (tmC ⟨x.t,0,0⟩).toArray 90)).heap[w.heap.size]?=w2.heap[w.heap.size]?):=aA (((Below.refl _ w2).alloc (Nat.le_refl _) _).block _ (Array.getElem?_eq_some_iff.1 HR2.out).1)
  have RB:=fun w=>ze1 (K.str x.t) w
  have D8:=fun y:Calm.OnB w.heap.size w2=>(show y.1.cell? ⟨w.heap.size,0,none⟩=some (.string (K.str x.t)) by rw[cell_of_row y.1 _ 0 _ _ _ (y.2.trans HR2.out)];rfl)
  refine CalmN.region_tree (fun y=>∃z:Calm.OnB w.heap.size w2,y=z.1) (.two [0,1,2,3,4,6,7,8] 5 (.one [] 9 (.one [] 10 (.one [11,12,13] 14 (.fin [])))) 9 (.one [] 5 (.one [] 10 (.one [11,12,13] 14 (.fin []))))) (by kernel_rfl) (by kernel_rfl) (fun _ _ d _ _ h=>by cases d <;> exact h) ⟨⟨w2.drew,rfl⟩,rfl⟩ ?_
  simp only[CalmN.wpT,CalmN.wpSt,CalmN.pickOps,List.getElem?_toArray,List.getElem?_cons_zero,List.getElem?_cons_succ]
  repeat (go_big_quiet_step (fail))
  refine wpQuiet_nil ?_
  clear D8
  refine⟨?_,?_⟩
  ·intro KK hKK
   rw[if_pos (by rfl)]
   go_wp2_with fail
   refine hKK _ _ ⟨⟨w2.drew,rfl⟩,rfl⟩ (fun y=>∃z:Calm.OnB w.heap.size w2,y=z.1) (fun _ h=>h) ⟨⟨w2.drew,rfl⟩,rfl⟩ ?_
   refine wpQuiet_nil ?_
   intro KK hKK
   try rw[if_pos (by rfl)]
   go_wp2_with fail
   refine hKK _ _ ⟨⟨(w2.alloc (.cells (tmC ⟨x.t,0,0⟩).toArray 90)).drew,HT6.out⟩,rfl⟩ (fun y=>∃z:Calm.OnB w.heap.size w2,y=z.1) (fun _ h=>h) ⟨⟨(w2.alloc (.cells (tmC ⟨x.t,0,0⟩).toArray 90)).drew,HT6.out⟩,rfl⟩ ?_
   refine wpQuiet_nil ?_
   intro KK hKK
   try rw[if_pos (by rfl)]
   refine ze5 (w:=(w2.alloc (.cells (tmC ⟨x.t,0,0⟩).toArray 90)).drew) (.tmp 31) (.tmp 35) _ rfl Try.underlying22 B (.slice AT ts.length cT) ts rfl HO6.out _ 1 ⟨x.t,0,0⟩ rfl HCE.out (by omega) HB6.out ?_
   intro v7 w7 ho7 hg7'
   have hg7:=(aG (w2.alloc (.cells (tmC ⟨x.t,0,0⟩).toArray 90)) _).trans hg7'
   obtain⟨A7,c7,hv7,_,_⟩:=zab ho7
   rw[show(ts++[(⟨x.t,0,0⟩:Gm.Tm)]).length=ts.length+1 by simp]at hv7
   subst hv7
   have hW7:=(HW2.out.alloc (.cells (tmC ⟨x.t,0,0⟩).toArray 90)).tm_put ho7 hg7
   have HW7:=aA hW7
   obtain⟨k7,hf7,hR7⟩:=hW7.at 0
   simp only[wC,List.getElem?_toArray,List.getElem?_cons_zero]at k7
   have hK7:=(KpT.below ((Below.refl _ w2).alloc (Nat.le_refl _) (.cells (tmC ⟨x.t,0,0⟩).toArray 90))).trans (KpT.own (HW2.out.alloc (.cells (tmC ⟨x.t,0,0⟩).toArray 90)).t hg7)
   have HK7:=aA hK7
   have HT7:Hid (w7.heap[w.heap.size]?=w2.heap[w.heap.size]?):=aA ((hK7 _ _ _ HR2r.out (by decide) (by decide)).trans HR2r.out.symm)
   have HB7:=aA ((HB26.out.alloc (Nat.le_trans hB HB2.out.size) (.cells (tmC ⟨x.t,0,0⟩).toArray 90)).grown hg7 (by have:=HB2.out.size;simp;omega) (fun k e=>(aH HW2.out.t e).1))
   clear ho7 hg7 hg7' hW7 hK7
   go_wp2_with fail
   refine hKK _ _ ⟨⟨w7,HT7.out⟩,rfl⟩ (fun y=>∃z:Calm.OnB w.heap.size w2,y=z.1) (fun _ h=>h) ⟨⟨w7,HT7.out⟩,rfl⟩ ?_
   repeat (go_big_quiet_step (fail))
   refine wpQuiet_nil ?_
   intro KK hKK
   try rw[if_pos (by rfl)]
   go_wp2_with fail
   have HW8:=aA (HW7.out.set 0 (.slice A7 (ts.length+1) c7))
   have HK8:=aA (HK7.out.trans (KpT.set HW7.out 0 (.slice A7 (ts.length+1) c7)))
   have HB8:=aA (HB7.out.setCell (p:=⟨R,0,none⟩) HW7.out.hR (.slice A7 (ts.length+1) c7))
   have HT8:Hid ((w7.setCell ⟨R,0,none⟩ (.slice A7 (ts.length+1) c7)).heap[w.heap.size]?=w2.heap[w.heap.size]?):=aA ((HK8.out _ _ _ HR2r.out (by decide) (by decide)).trans HR2r.out.symm)
   refine hKK _ _ ⟨⟨_,HT8.out⟩,rfl⟩ (fun y=>∃z:Calm.OnB w.heap.size w2,y=z.1) (fun _ h=>h) ⟨⟨_,HT8.out⟩,rfl⟩ ?_
   refine wpQuiet_nil ?_
   obtain⟨k8,_,hR8⟩:=HW8.out.at 0
   simp only[wC,List.setIfInBounds_toArray,List.set_cons_zero,List.getElem?_toArray,List.getElem?_cons_zero]at k8
   clear k7 hf7
   go_wp2
   go_ret
   refine⟨by simp;exact HE.out.2.1,⟨_,_,_,by rw[←HE.out.1];exact HW8.out⟩,HB8.out,(KpT.below HB2.out).trans HK8.out⟩
  ·intro KK hKK
   rw[if_pos (by rfl)]
   go_wp2_with fail
   refine hKK _ _ ⟨⟨(w2.alloc (.cells (tmC ⟨x.t,0,0⟩).toArray 90)).drew,HT6.out⟩,rfl⟩ (fun y=>∃z:Calm.OnB w.heap.size w2,y=z.1) (fun _ h=>h) ⟨⟨(w2.alloc (.cells (tmC ⟨x.t,0,0⟩).toArray 90)).drew,HT6.out⟩,rfl⟩ ?_
   refine wpQuiet_nil ?_
   intro KK hKK
   try rw[if_pos (by rfl)]
   go_wp2_with fail
   refine hKK _ _ ⟨⟨(w2.alloc (.cells (tmC ⟨x.t,0,0⟩).toArray 90)).drew,HT6.out⟩,rfl⟩ (fun y=>∃z:Calm.OnB w.heap.size w2,y=z.1) (fun _ h=>h) ⟨⟨(w2.alloc (.cells (tmC ⟨x.t,0,0⟩).toArray 90)).drew,HT6.out⟩,rfl⟩ ?_
   refine wpQuiet_nil ?_
   intro KK hKK
   try rw[if_pos (by rfl)]
   refine ze5 (w:=(w2.alloc (.cells (tmC ⟨x.t,0,0⟩).toArray 90)).drew) (.tmp 31) (.tmp 35) _ rfl Try.underlying22 B (.slice AT ts.length cT) ts rfl HO6.out _ 1 ⟨x.t,0,0⟩ rfl HCE.out (by omega) HB6.out ?_
   intro v7 w7 ho7 hg7'
   have hg7:=(aG (w2.alloc (.cells (tmC ⟨x.t,0,0⟩).toArray 90)) _).trans hg7'
   obtain⟨A7,c7,hv7,_,_⟩:=zab ho7
   rw[show(ts++[(⟨x.t,0,0⟩:Gm.Tm)]).length=ts.length+1 by simp]at hv7
   subst hv7
   have hW7:=(HW2.out.alloc (.cells (tmC ⟨x.t,0,0⟩).toArray 90)).tm_put ho7 hg7
   have HW7:=aA hW7
   obtain⟨k7,hf7,hR7⟩:=hW7.at 0
   simp only[wC,List.getElem?_toArray,List.getElem?_cons_zero]at k7
   have hK7:=(KpT.below ((Below.refl _ w2).alloc (Nat.le_refl _) (.cells (tmC ⟨x.t,0,0⟩).toArray 90))).trans (KpT.own (HW2.out.alloc (.cells (tmC ⟨x.t,0,0⟩).toArray 90)).t hg7)
   have HK7:=aA hK7
   have HT7:Hid (w7.heap[w.heap.size]?=w2.heap[w.heap.size]?):=aA ((hK7 _ _ _ HR2r.out (by decide) (by decide)).trans HR2r.out.symm)
   have HB7:=aA ((HB26.out.alloc (Nat.le_trans hB HB2.out.size) (.cells (tmC ⟨x.t,0,0⟩).toArray 90)).grown hg7 (by have:=HB2.out.size;simp;omega) (fun k e=>(aH HW2.out.t e).1))
   clear ho7 hg7 hg7' hW7 hK7
   go_wp2_with fail
   refine hKK _ _ ⟨⟨w7,HT7.out⟩,rfl⟩ (fun y=>∃z:Calm.OnB w.heap.size w2,y=z.1) (fun _ h=>h) ⟨⟨w7,HT7.out⟩,rfl⟩ ?_
   repeat (go_big_quiet_step (fail))
   refine wpQuiet_nil ?_
   intro KK hKK
   try rw[if_pos (by rfl)]
   go_wp2_with fail
   have HW8:=aA (HW7.out.set 0 (.slice A7 (ts.length+1) c7))
   have HK8:=aA (HK7.out.trans (KpT.set HW7.out 0 (.slice A7 (ts.length+1) c7)))
   have HB8:=aA (HB7.out.setCell (p:=⟨R,0,none⟩) HW7.out.hR (.slice A7 (ts.length+1) c7))
   have HT8:Hid ((w7.setCell ⟨R,0,none⟩ (.slice A7 (ts.length+1) c7)).heap[w.heap.size]?=w2.heap[w.heap.size]?):=aA ((HK8.out _ _ _ HR2r.out (by decide) (by decide)).trans HR2r.out.symm)
   refine hKK _ _ ⟨⟨_,HT8.out⟩,rfl⟩ (fun y=>∃z:Calm.OnB w.heap.size w2,y=z.1) (fun _ h=>h) ⟨⟨_,HT8.out⟩,rfl⟩ ?_
   refine wpQuiet_nil ?_
   obtain⟨k8,_,hR8⟩:=HW8.out.at 0
   simp only[wC,List.setIfInBounds_toArray,List.set_cons_zero,List.getElem?_toArray,List.getElem?_cons_zero]at k8
   clear k7 hf7
   go_wp2
   go_ret
   refine⟨by simp;exact HE.out.2.1,⟨_,_,_,by rw[←HE.out.1];exact HW8.out⟩,HB8.out,(KpT.below HB2.out).trans HK8.out⟩
theorem Gm.put_lt {ts ts':List Gm.Tm} {x:Tok} {n:Int} (h:Gm.put ts x=.ok (ts',n)):∃i:Nat,n=(i:Int)∧i<ts'.length:=by
 unfold Gm.put at h
 by_cases h0:0≤Gm.find (Gm.names ts) x.t
 ·rw[if_pos h0]at h
  injection h with h
  have h1:=congrArg Prod.fst h
  have h2:=congrArg Prod.snd h
  simp only at h1 h2
  have h3:=Gm.find_lt (Gm.names ts) x.t
  have h4:(Gm.names ts).length=ts.length:=by simp[Gm.names]
  refine⟨n.toNat,by omega,?_⟩
  rw[←h1]
  omega
 ·rw[if_neg h0]at h
  by_cases h24:ts.length=24
  ·rw[if_pos h24]at h;cases h
  ·rw[if_neg h24]at h
   injection h with h
   have h1:=congrArg Prod.fst h
   have h2:=congrArg Prod.snd h
   simp only at h1 h2
   refine⟨ts.length,h2.symm,?_⟩
   rw[←h1]
   simp
theorem zfL (L:List Int) (B N R:Nat) (ts ts':List Gm.Tm) (ns:List (List Int)) (rs:List Gm.Rl) (lv n k:Int) (x:Tok) (w:World) (hw:Wk w B N R ts ns rs lv) (hf:Gm.Fit ⟨ts,ns,rs,0⟩) (hx:K.Tx x.t) (hnm:Gm.named x.t=true) (hN:N≤w.heap.size) (hB:B≤w.heap.size) (hk:k=4∨k=5)
  (hlo:¬(0≤Gm.find (Gm.names ts) x.t∧0<(ts.map Gm.Tm.lv).getD (Gm.find (Gm.names ts) x.t).toNat 0)) (hp:Gm.put ts x=.ok (ts',n)) (h24:ts.length≤24) :
  Calls Try.prog 55 #[.pointer (some ⟨R,0,none⟩),.int .i64 k,aY L x] w fun e w'=>e=.returned (.tuple #[])∧Wk w' B N R (ts'.modify n.toNat fun t=>⟨t.nm,lv,k-3⟩) ns rs lv∧Below B w w'∧KpT w w':=by
 have HW:=aA hw
 obtain⟨i,hi,hil⟩:=Gm.put_lt hp
 subst hi
 have HTE:=aA (fun(y:World) (h:Wk y B N R ts ns rs lv) (hy:N≤y.heap.size) (hz:B≤y.heap.size)=>zcC L B N R ts ts' ns rs lv i x y h hf hx hy hz hp h24)
 have HNM:=aA (fun(y:World)=>zaA x.t hx y)
 rw[hnm]at HNM
 obtain⟨vT,vN,vR,h⟩:=hw
 have HH:=aA h
 obtain⟨AT,cT,rfl,hc1,_⟩:=zab h.t
 obtain⟨AN,cN,rfl,_,_⟩:=zab h.n
 have hr3:∃AR cR,vR=.slice AR rs.length cR:=by obtain⟨qs,_,h2,_⟩:=id h.r;obtain⟨A,c,e,_⟩:=zab h2;exact⟨A,c,e⟩
 obtain⟨AR,cR,rfl⟩:=hr3
 obtain⟨k0,hf0,hRs⟩:=h.at 0
 have k1:=(h.at 1).1
 have k2:=(h.at 2).1
 have k3:=(h.at 3).1
 simp only[wC,List.getElem?_toArray,List.getElem?_cons_zero,List.getElem?_cons_succ]at k0 k1 k2 k3
 unfold aY
 obtain⟨w1,hw1⟩:∃y,y=w.alloc (.cells #[.string (K.str x.t),.complex .f64 (Fl.fl (Pl.pos (L.take x.o)).1) (Fl.fl (Pl.pos (L.take x.o)).2)] 77):=⟨_,rfl⟩
 have HB1:Hid (Below w.heap.size w w1):=aA (by rw[hw1];exact(Below.refl _ _).alloc (Nat.le_refl _) _)
 have HR1:Hid (w1.heap[w.heap.size]?=some (.cells #[.string (K.str x.t),.complex .f64 (Fl.fl (Pl.pos (L.take x.o)).1) (Fl.fl (Pl.pos (L.take x.o)).2)] 77 (0,0))):=aA (by rw[hw1];exact heap_alloc_new w _)
 have HT:=aA (fun(y:World) (hb:Below w1.heap.size w1 y)=>zcg (.agg #[.slice AT ts.length cT,.slice AN ns.length cN,.slice AR rs.length cR,.int .i64 0]) ⟨ts,ns,rs,0⟩ x.t w.heap.size y ((h.rd hN 0).below (HB1.out.trans (hb.mono HB1.out.size)) (Nat.le_refl _)) hf hx (Nat.le_trans HB1.out.size hb.size))
 unfold Gm.term at HT
 have HLO:=aA hlo
 have HLT:=aA hil
 clear hp hf hlo
 rcases hk with rfl|rfl
 ·go_enter Try.func55,Try.ntmps55
  go_wp2_with fail
  refine(HNM.out _).mono ?_;rintro _ _ ⟨rfl,rfl⟩
  go_wp2_with fail
  rw[←hw1]
  clear hw1
  have hk:=HB1.out
  have p0:=(hk.cell (p:=⟨R,0,none⟩) hRs).trans k0
  have p1:=(hk.cell (p:=⟨R,1,none⟩) hRs).trans k1
  have p2:=(hk.cell (p:=⟨R,2,none⟩) hRs).trans k2
  have p3:=(hk.cell (p:=⟨R,3,none⟩) hRs).trans k3
  have hR1:R<w1.heap.size:=Nat.lt_of_lt_of_le hRs hk.size
  have hb1:w.heap.size<w1.heap.size:=(Array.getElem?_eq_some_iff.1 HR1.out).1
  have t0:w1.cell? ⟨w.heap.size,0,none⟩=some (.string (K.str x.t)):=by rw[cell_of_row w1 _ 0 _ _ _ HR1.out];rfl
  have Q0:=fun y:Calm.On w1.heap.size w1=>(y.2.cell (p:=⟨R,0,none⟩) hR1).trans p0
  have Q1:=fun y:Calm.On w1.heap.size w1=>(y.2.cell (p:=⟨R,1,none⟩) hR1).trans p1
  have Q2:=fun y:Calm.On w1.heap.size w1=>(y.2.cell (p:=⟨R,2,none⟩) hR1).trans p2
  have Q3:=fun y:Calm.On w1.heap.size w1=>(y.2.cell (p:=⟨R,3,none⟩) hR1).trans p3
  have Q4:=fun y:Calm.On w1.heap.size w1=>(y.2.cell (p:=⟨w.heap.size,0,none⟩) hb1).trans t0
  clear hk
  refine CalmN.region_tree (fun x=>∃y:Calm.On w1.heap.size w1,x=y.1) (.one [0,1,2,3,4,5] 6 (.fin [7])) (by kernel_rfl) (by kernel_rfl) (fun _ _ d _ _ h=>by cases d <;> exact h) ⟨⟨w1.drew,aB (Below.refl _ _) 1⟩,rfl⟩ ?_
  simp only[CalmN.wpT,CalmN.wpSt,CalmN.pickOps,List.getElem?_toArray,List.getElem?_cons_zero,List.getElem?_cons_succ]
  repeat (go_big_quiet_step (fail))
  refine wpQuiet_nil ?_
  clear Q0 Q1 Q2 Q3 Q4 p0 p1 p2 p3 t0 k0 k1 k2 k3
  intro KK hKK
  rw[if_pos (by rfl)]
  go_wp2_with fail
  refine(HT.out w1.drew (aB (Below.refl _ _) 1)).mono ?_;rintro _ w2 ⟨rfl,hb2⟩
  have hb12:Below w1.heap.size w1 w2:=(aB (Below.refl w1.heap.size w1) 1).trans hb2
  have HB12:=aA hb12
  clear hb2
  go_wp2_with fail
  refine hKK _ _ ⟨⟨w2,hb12⟩,rfl⟩ (fun x=>∃y:Calm.On w1.heap.size w1,x=y.1) (fun _ h=>h) ⟨⟨w2,hb12⟩,rfl⟩ ?_
  repeat (go_big_quiet_step (fail))
  refine wpQuiet_nil ?_
  have HB2:=aA (HB1.out.trans (hb12.mono HB1.out.size))
  have HW2:=aA (HH.out.below HB2.out)
  have HR2:=aA ((hb12.block w.heap.size hb1).trans HR1.out)
  clear hb12 hKK
  have hsz2:=HB2.out.size
  obtain⟨m0,mf0,hR2⟩:=HW2.out.at 0
  simp only[wC,List.getElem?_toArray,List.getElem?_cons_zero]at m0
  have tr0:w2.cell? ⟨w.heap.size,0,none⟩=some (.string (K.str x.t)):=by rw[cell_of_row w2 _ 0 _ _ _ HR2.out];rfl
  have tr1:w2.cell? ⟨w.heap.size,1,none⟩=some (.complex .f64 (Fl.fl (Pl.pos (L.take x.o)).1) (Fl.fl (Pl.pos (L.take x.o)).2)):=by rw[cell_of_row w2 _ 1 _ _ _ HR2.out];rfl
  have HTE2:=aA (HTE.out w2 ⟨_,_,_,HW2.out⟩ (Nat.le_trans hN hsz2) (Nat.le_trans hB hsz2))
  unfold aY at HTE2
  by_cases h0:0≤Gm.find (Gm.names ts) x.t
  ·have hlt:=Gm.find_lt (Gm.names ts) x.t
   obtain⟨j,hj⟩:∃j:Nat,Gm.find (Gm.names ts) x.t=(j:Int):=⟨_,(Int.toNat_of_nonneg h0).symm⟩
   have hjl:j<ts.length:=by rw[hj]at hlt;simp[Gm.names]at hlt;omega
   obtain⟨gT,cc,e,_,_,kk,_⟩:=zaO HW2.out.t j hjl
   injection e with e1 e2 e3
   subst e1
   have hlo:¬(0<ts[j].lv):=by
    have h:=HLO.out
    rw[hj]at h
    intro q
    refine h ⟨by omega,?_⟩
    rw[show((j:Int)).toNat=j from rfl,Sh.getD_at _ _ _ (by simpa using hjl),List.getElem_map]
    exact q
   have hj0:(0:Int)≤(j:Int):=by omega
   have hjl2:(j:Int)<(ts.length:Int):=by omega
   have hgt:gT<w2.heap.size:=block_lt_of_cell (a:=⟨gT,_,none⟩) kk
   rw[hj]
   clear h0 hlt hj e2 e3 HLO HT
   generalize ts[j].lv=lvj at *
   go_wp2_with fail
   refine HTE2.out.mono ?_;rintro _ w3 ⟨rfl,hw3,hb3,hk3⟩
   obtain⟨vT3,vN3,vR3,h3⟩:=hw3
   have HW3:=aA h3
   have HB3:=aA ((HB2.out.mono hB).trans hb3)
   have HK3:=aA ((KpT.below HB2.out).trans hk3)
   obtain⟨g3,cc3,rfl,_,s1,s2,sf,hBg,hgs,cur3,hcur3⟩:=zaO h3.t i HLT.out
   have HCU:=aA hcur3
   obtain⟨n0,_,hR3⟩:=h3.at 0
   have n8:=(h3.at 8).1
   have n10:=(h3.at 10).1
   simp only[wC,List.getElem?_toArray,List.getElem?_cons_zero,List.getElem?_cons_succ]at n0 n8 n10
   have f1:=sf (i*3+1)
   have f2:=sf (i*3+2)
   have hi0:(0:Int)≤(i:Int):=by omega
   have hil2:(i:Int)<(ts'.length:Int):=by have:=HLT.out;omega
   clear h3 hb3 hk3 hcur3 sf
   go_wp2_with fail
   have N0:=fun y:Calm.OnB R w3=>(show y.1.cell? ⟨R,0,none⟩=some (.slice (some ⟨g3,0,none⟩) ts'.length cc3) by rw[cell_of_row y.1 _ 0 _ _ _ (y.2.trans HW3.out.b)];rfl)
   have N8:=fun y:Calm.OnB R w3=>(show y.1.cell? ⟨R,8,none⟩=some (.int .i64 lv) by rw[cell_of_row y.1 _ 8 _ _ _ (y.2.trans HW3.out.b)];rfl)
   refine CalmN.region_tree (fun y=>∃z:Calm.OnB R w3,y=z.1) (.one [0,1,2,3,4,5,6,7,8,9,10,11,12,13,14,15,16,17,18,19,20] 21 (.one [22,23] 24 (.fin []))) (by kernel_rfl) (by kernel_rfl) (fun _ _ d _ _ h=>by cases d <;> exact h) ⟨⟨w3.drew,rfl⟩,rfl⟩ ?_
   simp only[CalmN.wpT,CalmN.wpSt,CalmN.pickOps,List.getElem?_toArray,List.getElem?_cons_zero,List.getElem?_cons_succ]
   repeat (go_big_quiet_step (fail))
   refine wpQuiet_nil ?_
   clear N0 N8
   have hneR:R≠g3:=fun e=>by have hb:=HW3.out.b;have hcu':=HCU.out;rw[e]at hb;rw[hb]at hcu';injection hcu' with q;injection q with _ q;exact absurd q (by decide)
   have HR5:Hid ((w3.setCell ⟨g3,i*3+1,none⟩ (.int .i64 lv)).heap[R]?=w3.heap[R]?):=aA (Below.heap_setCell w3 ⟨g3,i*3+1,none⟩ (.int .i64 lv) R (by simp only;exact hneR))
   have HR6:Hid (((w3.setCell ⟨g3,i*3+1,none⟩ (.int .i64 lv)).setCell ⟨g3,i*3+2,none⟩ (.int .i64 1)).heap[R]?=w3.heap[R]?):=aA ((Below.heap_setCell _ ⟨g3,i*3+2,none⟩ (.int .i64 1) R (by simp only;exact hneR)).trans HR5.out)
   intro KK hKK
   try rw[if_pos (by rfl)]
   go_wp2_with fail
   refine hKK _ _ ⟨⟨World.drew (w3.setCell ⟨g3,i*3+1,none⟩ (.int .i64 lv)),HR5.out⟩,rfl⟩ (fun y=>∃z:Calm.OnB R w3,y=z.1) (fun _ h=>h) ⟨⟨World.drew (w3.setCell ⟨g3,i*3+1,none⟩ (.int .i64 lv)),HR5.out⟩,rfl⟩ ?_
   repeat (go_big_quiet_step (fail))
   refine wpQuiet_nil ?_
   intro KK hKK
   try rw[if_pos (by rfl)]
   go_wp2_with fail
   refine hKK _ _ ⟨⟨World.drew ((w3.setCell ⟨g3,i*3+1,none⟩ (.int .i64 lv)).setCell ⟨g3,i*3+2,none⟩ (.int .i64 1)),HR6.out⟩,rfl⟩ (fun y=>∃z:Calm.OnB R w3,y=z.1) (fun _ h=>h) ⟨⟨World.drew ((w3.setCell ⟨g3,i*3+1,none⟩ (.int .i64 lv)).setCell ⟨g3,i*3+2,none⟩ (.int .i64 1)),HR6.out⟩,rfl⟩ ?_
   refine wpQuiet_nil ?_
   go_wp2
   go_end0
   have ho:=HW3.out.t
   have u1:=World.ownsRow.stored ho (i*3+1) (.int .i64 lv)
   have u2:=World.ownsRow.stored u1.1 (i*3+2) (.int .i64 1)
   have hg:w3.grownBy ((w3.setCell ⟨g3,i*3+1,none⟩ (.int .i64 lv)).setCell ⟨g3,i*3+2,none⟩ (.int .i64 1)).drew (some g3):=(aD (aD (World.grownBy.refl _ _) _ _) _ _).trans (aG _ _)
   have hOT:zaI ((w3.setCell ⟨g3,i*3+1,none⟩ (.int .i64 lv)).setCell ⟨g3,i*3+2,none⟩ (.int .i64 1)) B (.slice (some ⟨g3,0,none⟩) ts'.length cc3) (ts'.modify i fun t=>⟨t.nm,lv,1⟩):=by
    unfold zaI
    rw[List.length_modify,←zcf ts' i HLT.out]
    exact u2.1
   exact⟨rfl,⟨_,_,_,HW3.out.tm_put hOT hg⟩,HB3.out.grown hg (Nat.le_trans hB HB3.out.size) (fun k e=>by injection e with e;omega),HK3.out.trans (KpT.cells hg HCU.out (.inr rfl))⟩
  ·have h0':Gm.find (Gm.names ts) x.t<0:=by omega
   generalize Gm.find (Gm.names ts) x.t=z at *
   go_wp2_with fail
   refine HTE2.out.mono ?_;rintro _ w3 ⟨rfl,hw3,hb3,hk3⟩
   obtain⟨vT3,vN3,vR3,h3⟩:=hw3
   have HW3:=aA h3
   have HB3:=aA ((HB2.out.mono hB).trans hb3)
   have HK3:=aA ((KpT.below HB2.out).trans hk3)
   obtain⟨g3,cc3,rfl,_,s1,s2,sf,hBg,hgs,cur3,hcur3⟩:=zaO h3.t i HLT.out
   have HCU:=aA hcur3
   obtain⟨n0,_,hR3⟩:=h3.at 0
   have n8:=(h3.at 8).1
   have n10:=(h3.at 10).1
   simp only[wC,List.getElem?_toArray,List.getElem?_cons_zero,List.getElem?_cons_succ]at n0 n8 n10
   have f1:=sf (i*3+1)
   have f2:=sf (i*3+2)
   have hi0:(0:Int)≤(i:Int):=by omega
   have hil2:(i:Int)<(ts'.length:Int):=by have:=HLT.out;omega
   clear h3 hb3 hk3 hcur3 sf
   go_wp2_with fail
   have N0:=fun y:Calm.OnB R w3=>(show y.1.cell? ⟨R,0,none⟩=some (.slice (some ⟨g3,0,none⟩) ts'.length cc3) by rw[cell_of_row y.1 _ 0 _ _ _ (y.2.trans HW3.out.b)];rfl)
   have N8:=fun y:Calm.OnB R w3=>(show y.1.cell? ⟨R,8,none⟩=some (.int .i64 lv) by rw[cell_of_row y.1 _ 8 _ _ _ (y.2.trans HW3.out.b)];rfl)
   refine CalmN.region_tree (fun y=>∃z:Calm.OnB R w3,y=z.1) (.one [0,1,2,3,4,5,6,7,8,9,10,11,12,13,14,15,16,17,18,19,20] 21 (.one [22,23] 24 (.fin []))) (by kernel_rfl) (by kernel_rfl) (fun _ _ d _ _ h=>by cases d <;> exact h) ⟨⟨w3.drew,rfl⟩,rfl⟩ ?_
   simp only[CalmN.wpT,CalmN.wpSt,CalmN.pickOps,List.getElem?_toArray,List.getElem?_cons_zero,List.getElem?_cons_succ]
   repeat (go_big_quiet_step (fail))
   refine wpQuiet_nil ?_
   clear N0 N8
   have hneR:R≠g3:=fun e=>by have hb:=HW3.out.b;have hcu':=HCU.out;rw[e]at hb;rw[hb]at hcu';injection hcu' with q;injection q with _ q;exact absurd q (by decide)
   have HR5:Hid ((w3.setCell ⟨g3,i*3+1,none⟩ (.int .i64 lv)).heap[R]?=w3.heap[R]?):=aA (Below.heap_setCell w3 ⟨g3,i*3+1,none⟩ (.int .i64 lv) R (by simp only;exact hneR))
   have HR6:Hid (((w3.setCell ⟨g3,i*3+1,none⟩ (.int .i64 lv)).setCell ⟨g3,i*3+2,none⟩ (.int .i64 1)).heap[R]?=w3.heap[R]?):=aA ((Below.heap_setCell _ ⟨g3,i*3+2,none⟩ (.int .i64 1) R (by simp only;exact hneR)).trans HR5.out)
   intro KK hKK
   try rw[if_pos (by rfl)]
   go_wp2_with fail
   refine hKK _ _ ⟨⟨World.drew (w3.setCell ⟨g3,i*3+1,none⟩ (.int .i64 lv)),HR5.out⟩,rfl⟩ (fun y=>∃z:Calm.OnB R w3,y=z.1) (fun _ h=>h) ⟨⟨World.drew (w3.setCell ⟨g3,i*3+1,none⟩ (.int .i64 lv)),HR5.out⟩,rfl⟩ ?_
   repeat (go_big_quiet_step (fail))
   refine wpQuiet_nil ?_
   intro KK hKK
   try rw[if_pos (by rfl)]
   go_wp2_with fail
   refine hKK _ _ ⟨⟨World.drew ((w3.setCell ⟨g3,i*3+1,none⟩ (.int .i64 lv)).setCell ⟨g3,i*3+2,none⟩ (.int .i64 1)),HR6.out⟩,rfl⟩ (fun y=>∃z:Calm.OnB R w3,y=z.1) (fun _ h=>h) ⟨⟨World.drew ((w3.setCell ⟨g3,i*3+1,none⟩ (.int .i64 lv)).setCell ⟨g3,i*3+2,none⟩ (.int .i64 1)),HR6.out⟩,rfl⟩ ?_
   refine wpQuiet_nil ?_
   go_wp2
   go_end0
   have ho:=HW3.out.t
   have u1:=World.ownsRow.stored ho (i*3+1) (.int .i64 lv)
   have u2:=World.ownsRow.stored u1.1 (i*3+2) (.int .i64 1)
   have hg:w3.grownBy ((w3.setCell ⟨g3,i*3+1,none⟩ (.int .i64 lv)).setCell ⟨g3,i*3+2,none⟩ (.int .i64 1)).drew (some g3):=(aD (aD (World.grownBy.refl _ _) _ _) _ _).trans (aG _ _)
   have hOT:zaI ((w3.setCell ⟨g3,i*3+1,none⟩ (.int .i64 lv)).setCell ⟨g3,i*3+2,none⟩ (.int .i64 1)) B (.slice (some ⟨g3,0,none⟩) ts'.length cc3) (ts'.modify i fun t=>⟨t.nm,lv,1⟩):=by
    unfold zaI
    rw[List.length_modify,←zcf ts' i HLT.out]
    exact u2.1
   exact⟨rfl,⟨_,_,_,HW3.out.tm_put hOT hg⟩,HB3.out.grown hg (Nat.le_trans hB HB3.out.size) (fun k e=>by injection e with e;omega),HK3.out.trans (KpT.cells hg HCU.out (.inr rfl))⟩
 ·go_enter Try.func55,Try.ntmps55
  go_wp2_with fail
  refine(HNM.out _).mono ?_;rintro _ _ ⟨rfl,rfl⟩
  go_wp2_with fail
  rw[←hw1]
  clear hw1
  have hk:=HB1.out
  have p0:=(hk.cell (p:=⟨R,0,none⟩) hRs).trans k0
  have p1:=(hk.cell (p:=⟨R,1,none⟩) hRs).trans k1
  have p2:=(hk.cell (p:=⟨R,2,none⟩) hRs).trans k2
  have p3:=(hk.cell (p:=⟨R,3,none⟩) hRs).trans k3
  have hR1:R<w1.heap.size:=Nat.lt_of_lt_of_le hRs hk.size
  have hb1:w.heap.size<w1.heap.size:=(Array.getElem?_eq_some_iff.1 HR1.out).1
  have t0:w1.cell? ⟨w.heap.size,0,none⟩=some (.string (K.str x.t)):=by rw[cell_of_row w1 _ 0 _ _ _ HR1.out];rfl
  have Q0:=fun y:Calm.On w1.heap.size w1=>(y.2.cell (p:=⟨R,0,none⟩) hR1).trans p0
  have Q1:=fun y:Calm.On w1.heap.size w1=>(y.2.cell (p:=⟨R,1,none⟩) hR1).trans p1
  have Q2:=fun y:Calm.On w1.heap.size w1=>(y.2.cell (p:=⟨R,2,none⟩) hR1).trans p2
  have Q3:=fun y:Calm.On w1.heap.size w1=>(y.2.cell (p:=⟨R,3,none⟩) hR1).trans p3
  have Q4:=fun y:Calm.On w1.heap.size w1=>(y.2.cell (p:=⟨w.heap.size,0,none⟩) hb1).trans t0
  clear hk
  refine CalmN.region_tree (fun x=>∃y:Calm.On w1.heap.size w1,x=y.1) (.one [0,1,2,3,4,5] 6 (.fin [7])) (by kernel_rfl) (by kernel_rfl) (fun _ _ d _ _ h=>by cases d <;> exact h) ⟨⟨w1.drew,aB (Below.refl _ _) 1⟩,rfl⟩ ?_
  simp only[CalmN.wpT,CalmN.wpSt,CalmN.pickOps,List.getElem?_toArray,List.getElem?_cons_zero,List.getElem?_cons_succ]
  repeat (go_big_quiet_step (fail))
  refine wpQuiet_nil ?_
  clear Q0 Q1 Q2 Q3 Q4 p0 p1 p2 p3 t0 k0 k1 k2 k3
  intro KK hKK
  rw[if_pos (by rfl)]
  go_wp2_with fail
  refine(HT.out w1.drew (aB (Below.refl _ _) 1)).mono ?_;rintro _ w2 ⟨rfl,hb2⟩
  have hb12:Below w1.heap.size w1 w2:=(aB (Below.refl w1.heap.size w1) 1).trans hb2
  have HB12:=aA hb12
  clear hb2
  go_wp2_with fail
  refine hKK _ _ ⟨⟨w2,hb12⟩,rfl⟩ (fun x=>∃y:Calm.On w1.heap.size w1,x=y.1) (fun _ h=>h) ⟨⟨w2,hb12⟩,rfl⟩ ?_
  repeat (go_big_quiet_step (fail))
  refine wpQuiet_nil ?_
  have HB2:=aA (HB1.out.trans (hb12.mono HB1.out.size))
  have HW2:=aA (HH.out.below HB2.out)
  have HR2:=aA ((hb12.block w.heap.size hb1).trans HR1.out)
  clear hb12 hKK
  have hsz2:=HB2.out.size
  obtain⟨m0,mf0,hR2⟩:=HW2.out.at 0
  simp only[wC,List.getElem?_toArray,List.getElem?_cons_zero]at m0
  have tr0:w2.cell? ⟨w.heap.size,0,none⟩=some (.string (K.str x.t)):=by rw[cell_of_row w2 _ 0 _ _ _ HR2.out];rfl
  have tr1:w2.cell? ⟨w.heap.size,1,none⟩=some (.complex .f64 (Fl.fl (Pl.pos (L.take x.o)).1) (Fl.fl (Pl.pos (L.take x.o)).2)):=by rw[cell_of_row w2 _ 1 _ _ _ HR2.out];rfl
  have HTE2:=aA (HTE.out w2 ⟨_,_,_,HW2.out⟩ (Nat.le_trans hN hsz2) (Nat.le_trans hB hsz2))
  unfold aY at HTE2
  by_cases h0:0≤Gm.find (Gm.names ts) x.t
  ·have hlt:=Gm.find_lt (Gm.names ts) x.t
   obtain⟨j,hj⟩:∃j:Nat,Gm.find (Gm.names ts) x.t=(j:Int):=⟨_,(Int.toNat_of_nonneg h0).symm⟩
   have hjl:j<ts.length:=by rw[hj]at hlt;simp[Gm.names]at hlt;omega
   obtain⟨gT,cc,e,_,_,kk,_⟩:=zaO HW2.out.t j hjl
   injection e with e1 e2 e3
   subst e1
   have hlo:¬(0<ts[j].lv):=by
    have h:=HLO.out
    rw[hj]at h
    intro q
    refine h ⟨by omega,?_⟩
    rw[show((j:Int)).toNat=j from rfl,Sh.getD_at _ _ _ (by simpa using hjl),List.getElem_map]
    exact q
   have hj0:(0:Int)≤(j:Int):=by omega
   have hjl2:(j:Int)<(ts.length:Int):=by omega
   have hgt:gT<w2.heap.size:=block_lt_of_cell (a:=⟨gT,_,none⟩) kk
   rw[hj]
   clear h0 hlt hj e2 e3 HLO HT
   generalize ts[j].lv=lvj at *
   go_wp2_with fail
   refine HTE2.out.mono ?_;rintro _ w3 ⟨rfl,hw3,hb3,hk3⟩
   obtain⟨vT3,vN3,vR3,h3⟩:=hw3
   have HW3:=aA h3
   have HB3:=aA ((HB2.out.mono hB).trans hb3)
   have HK3:=aA ((KpT.below HB2.out).trans hk3)
   obtain⟨g3,cc3,rfl,_,s1,s2,sf,hBg,hgs,cur3,hcur3⟩:=zaO h3.t i HLT.out
   have HCU:=aA hcur3
   obtain⟨n0,_,hR3⟩:=h3.at 0
   have n8:=(h3.at 8).1
   have n10:=(h3.at 10).1
   simp only[wC,List.getElem?_toArray,List.getElem?_cons_zero,List.getElem?_cons_succ]at n0 n8 n10
   have f1:=sf (i*3+1)
   have f2:=sf (i*3+2)
   have hi0:(0:Int)≤(i:Int):=by omega
   have hil2:(i:Int)<(ts'.length:Int):=by have:=HLT.out;omega
   clear h3 hb3 hk3 hcur3 sf
   go_wp2_with fail
   have N0:=fun y:Calm.OnB R w3=>(show y.1.cell? ⟨R,0,none⟩=some (.slice (some ⟨g3,0,none⟩) ts'.length cc3) by rw[cell_of_row y.1 _ 0 _ _ _ (y.2.trans HW3.out.b)];rfl)
   have N8:=fun y:Calm.OnB R w3=>(show y.1.cell? ⟨R,8,none⟩=some (.int .i64 lv) by rw[cell_of_row y.1 _ 8 _ _ _ (y.2.trans HW3.out.b)];rfl)
   refine CalmN.region_tree (fun y=>∃z:Calm.OnB R w3,y=z.1) (.one [0,1,2,3,4,5,6,7,8,9,10,11,12,13,14,15,16,17,18,19,20] 21 (.one [22,23] 24 (.fin []))) (by kernel_rfl) (by kernel_rfl) (fun _ _ d _ _ h=>by cases d <;> exact h) ⟨⟨w3.drew,rfl⟩,rfl⟩ ?_
   simp only[CalmN.wpT,CalmN.wpSt,CalmN.pickOps,List.getElem?_toArray,List.getElem?_cons_zero,List.getElem?_cons_succ]
   repeat (go_big_quiet_step (fail))
   refine wpQuiet_nil ?_
   clear N0 N8
   have hneR:R≠g3:=fun e=>by have hb:=HW3.out.b;have hcu':=HCU.out;rw[e]at hb;rw[hb]at hcu';injection hcu' with q;injection q with _ q;exact absurd q (by decide)
   have HR5:Hid ((w3.setCell ⟨g3,i*3+1,none⟩ (.int .i64 lv)).heap[R]?=w3.heap[R]?):=aA (Below.heap_setCell w3 ⟨g3,i*3+1,none⟩ (.int .i64 lv) R (by simp only;exact hneR))
   have HR6:Hid (((w3.setCell ⟨g3,i*3+1,none⟩ (.int .i64 lv)).setCell ⟨g3,i*3+2,none⟩ (.int .i64 2)).heap[R]?=w3.heap[R]?):=aA ((Below.heap_setCell _ ⟨g3,i*3+2,none⟩ (.int .i64 2) R (by simp only;exact hneR)).trans HR5.out)
   intro KK hKK
   try rw[if_pos (by rfl)]
   go_wp2_with fail
   refine hKK _ _ ⟨⟨World.drew (w3.setCell ⟨g3,i*3+1,none⟩ (.int .i64 lv)),HR5.out⟩,rfl⟩ (fun y=>∃z:Calm.OnB R w3,y=z.1) (fun _ h=>h) ⟨⟨World.drew (w3.setCell ⟨g3,i*3+1,none⟩ (.int .i64 lv)),HR5.out⟩,rfl⟩ ?_
   repeat (go_big_quiet_step (fail))
   refine wpQuiet_nil ?_
   intro KK hKK
   try rw[if_pos (by rfl)]
   go_wp2_with fail
   refine hKK _ _ ⟨⟨World.drew ((w3.setCell ⟨g3,i*3+1,none⟩ (.int .i64 lv)).setCell ⟨g3,i*3+2,none⟩ (.int .i64 2)),HR6.out⟩,rfl⟩ (fun y=>∃z:Calm.OnB R w3,y=z.1) (fun _ h=>h) ⟨⟨World.drew ((w3.setCell ⟨g3,i*3+1,none⟩ (.int .i64 lv)).setCell ⟨g3,i*3+2,none⟩ (.int .i64 2)),HR6.out⟩,rfl⟩ ?_
   refine wpQuiet_nil ?_
   go_wp2
   go_end0
   have ho:=HW3.out.t
   have u1:=World.ownsRow.stored ho (i*3+1) (.int .i64 lv)
   have u2:=World.ownsRow.stored u1.1 (i*3+2) (.int .i64 2)
   have hg:w3.grownBy ((w3.setCell ⟨g3,i*3+1,none⟩ (.int .i64 lv)).setCell ⟨g3,i*3+2,none⟩ (.int .i64 2)).drew (some g3):=(aD (aD (World.grownBy.refl _ _) _ _) _ _).trans (aG _ _)
   have hOT:zaI ((w3.setCell ⟨g3,i*3+1,none⟩ (.int .i64 lv)).setCell ⟨g3,i*3+2,none⟩ (.int .i64 2)) B (.slice (some ⟨g3,0,none⟩) ts'.length cc3) (ts'.modify i fun t=>⟨t.nm,lv,2⟩):=by
    unfold zaI
    rw[List.length_modify,←zcf ts' i HLT.out]
    exact u2.1
   exact⟨rfl,⟨_,_,_,HW3.out.tm_put hOT hg⟩,HB3.out.grown hg (Nat.le_trans hB HB3.out.size) (fun k e=>by injection e with e;omega),HK3.out.trans (KpT.cells hg HCU.out (.inr rfl))⟩
  ·have h0':Gm.find (Gm.names ts) x.t<0:=by omega
   generalize Gm.find (Gm.names ts) x.t=z at *
   go_wp2_with fail
   refine HTE2.out.mono ?_;rintro _ w3 ⟨rfl,hw3,hb3,hk3⟩
   obtain⟨vT3,vN3,vR3,h3⟩:=hw3
   have HW3:=aA h3
   have HB3:=aA ((HB2.out.mono hB).trans hb3)
   have HK3:=aA ((KpT.below HB2.out).trans hk3)
   obtain⟨g3,cc3,rfl,_,s1,s2,sf,hBg,hgs,cur3,hcur3⟩:=zaO h3.t i HLT.out
   have HCU:=aA hcur3
   obtain⟨n0,_,hR3⟩:=h3.at 0
   have n8:=(h3.at 8).1
   have n10:=(h3.at 10).1
   simp only[wC,List.getElem?_toArray,List.getElem?_cons_zero,List.getElem?_cons_succ]at n0 n8 n10
   have f1:=sf (i*3+1)
   have f2:=sf (i*3+2)
   have hi0:(0:Int)≤(i:Int):=by omega
   have hil2:(i:Int)<(ts'.length:Int):=by have:=HLT.out;omega
   clear h3 hb3 hk3 hcur3 sf
   go_wp2_with fail
   have N0:=fun y:Calm.OnB R w3=>(show y.1.cell? ⟨R,0,none⟩=some (.slice (some ⟨g3,0,none⟩) ts'.length cc3) by rw[cell_of_row y.1 _ 0 _ _ _ (y.2.trans HW3.out.b)];rfl)
   have N8:=fun y:Calm.OnB R w3=>(show y.1.cell? ⟨R,8,none⟩=some (.int .i64 lv) by rw[cell_of_row y.1 _ 8 _ _ _ (y.2.trans HW3.out.b)];rfl)
   refine CalmN.region_tree (fun y=>∃z:Calm.OnB R w3,y=z.1) (.one [0,1,2,3,4,5,6,7,8,9,10,11,12,13,14,15,16,17,18,19,20] 21 (.one [22,23] 24 (.fin []))) (by kernel_rfl) (by kernel_rfl) (fun _ _ d _ _ h=>by cases d <;> exact h) ⟨⟨w3.drew,rfl⟩,rfl⟩ ?_
   simp only[CalmN.wpT,CalmN.wpSt,CalmN.pickOps,List.getElem?_toArray,List.getElem?_cons_zero,List.getElem?_cons_succ]
   repeat (go_big_quiet_step (fail))
   refine wpQuiet_nil ?_
   clear N0 N8
   have hneR:R≠g3:=fun e=>by have hb:=HW3.out.b;have hcu':=HCU.out;rw[e]at hb;rw[hb]at hcu';injection hcu' with q;injection q with _ q;exact absurd q (by decide)
   have HR5:Hid ((w3.setCell ⟨g3,i*3+1,none⟩ (.int .i64 lv)).heap[R]?=w3.heap[R]?):=aA (Below.heap_setCell w3 ⟨g3,i*3+1,none⟩ (.int .i64 lv) R (by simp only;exact hneR))
   have HR6:Hid (((w3.setCell ⟨g3,i*3+1,none⟩ (.int .i64 lv)).setCell ⟨g3,i*3+2,none⟩ (.int .i64 2)).heap[R]?=w3.heap[R]?):=aA ((Below.heap_setCell _ ⟨g3,i*3+2,none⟩ (.int .i64 2) R (by simp only;exact hneR)).trans HR5.out)
   intro KK hKK
   try rw[if_pos (by rfl)]
   go_wp2_with fail
   refine hKK _ _ ⟨⟨World.drew (w3.setCell ⟨g3,i*3+1,none⟩ (.int .i64 lv)),HR5.out⟩,rfl⟩ (fun y=>∃z:Calm.OnB R w3,y=z.1) (fun _ h=>h) ⟨⟨World.drew (w3.setCell ⟨g3,i*3+1,none⟩ (.int .i64 lv)),HR5.out⟩,rfl⟩ ?_
   repeat (go_big_quiet_step (fail))
   refine wpQuiet_nil ?_
   intro KK hKK
   try rw[if_pos (by rfl)]
   go_wp2_with fail
   refine hKK _ _ ⟨⟨World.drew ((w3.setCell ⟨g3,i*3+1,none⟩ (.int .i64 lv)).setCell ⟨g3,i*3+2,none⟩ (.int .i64 2)),HR6.out⟩,rfl⟩ (fun y=>∃z:Calm.OnB R w3,y=z.1) (fun _ h=>h) ⟨⟨World.drew ((w3.setCell ⟨g3,i*3+1,none⟩ (.int .i64 lv)).setCell ⟨g3,i*3+2,none⟩ (.int .i64 2)),HR6.out⟩,rfl⟩ ?_
   refine wpQuiet_nil ?_
   go_wp2
   go_end0
   have ho:=HW3.out.t
   have u1:=World.ownsRow.stored ho (i*3+1) (.int .i64 lv)
   have u2:=World.ownsRow.stored u1.1 (i*3+2) (.int .i64 2)
   have hg:w3.grownBy ((w3.setCell ⟨g3,i*3+1,none⟩ (.int .i64 lv)).setCell ⟨g3,i*3+2,none⟩ (.int .i64 2)).drew (some g3):=(aD (aD (World.grownBy.refl _ _) _ _) _ _).trans (aG _ _)
   have hOT:zaI ((w3.setCell ⟨g3,i*3+1,none⟩ (.int .i64 lv)).setCell ⟨g3,i*3+2,none⟩ (.int .i64 2)) B (.slice (some ⟨g3,0,none⟩) ts'.length cc3) (ts'.modify i fun t=>⟨t.nm,lv,2⟩):=by
    unfold zaI
    rw[List.length_modify,←zcf ts' i HLT.out]
    exact u2.1
   exact⟨rfl,⟨_,_,_,HW3.out.tm_put hOT hg⟩,HB3.out.grown hg (Nat.le_trans hB HB3.out.size) (fun k e=>by injection e with e;omega),HK3.out.trans (KpT.cells hg HCU.out (.inr rfl))⟩
def On9 (B D:Nat) (w:World):Type:={x:World // Below B w x∧x.heap[D]?=w.heap[D]?}
instance (B D:Nat) (w:World):Nonempty (On9 B D w):=⟨⟨w,Below.refl _ _,rfl⟩⟩
structure J9 (s:Gm.S1) (ns:List (List Int)) (rs:List Gm.Rl):Prop where
 f:Gm.Fit ⟨s.ts,ns,rs,0⟩
 h:s.ts.length≤24
 v:0≤s.lv
theorem Fit.put {ts ts':List Gm.Tm} {ns:List (List Int)} {rs:List Gm.Rl} {z n:Int} {x:Tok} (h:Gm.Fit ⟨ts,ns,rs,z⟩) (hx:K.Tx x.t) (hp:Gm.put ts x=.ok (ts',n)):Gm.Fit ⟨ts',ns,rs,z⟩:=by
 rcases Gm.put_ok hp with⟨j,_,rfl,_⟩|⟨_,rfl,_,_⟩
 ·exact h
 ·refine⟨fun t ht=>?_,h.n,h.r,h.s⟩
  rcases List.mem_append.1 ht with h1|h1
  ·exact h.t t h1
  ·simp at h1;subst h1;exact⟨hx,by unfold Gm.In;simp,by unfold Gm.In;simp⟩
theorem zfY {ts ts':List Gm.Tm} {n:Int} {x:Tok} (h:ts.length≤24) (hp:Gm.put ts x=.ok (ts',n)):ts'.length≤24:=by
 rcases Gm.put_ok hp with⟨j,_,rfl,_⟩|⟨_,rfl,_,q⟩
 ·exact h
 ·simp;omega
theorem J9.step {s s':Gm.S1} {ns:List (List Int)} {rs:List Gm.Rl} {x:Tok} {k:Int} (h:J9 s ns rs) (hk:k=4∨k=5) (hx:K.Tx x.t) (hv:s.lv≤1000000) (hd:Gm.decl1 k s x=.ok s') :
  J9 s' ns rs∧s'.lv=s.lv∧(¬(0≤Gm.find (Gm.names s.ts) x.t∧0<(s.ts.map Gm.Tm.lv).getD (Gm.find (Gm.names s.ts) x.t).toNat 0))∧∃ts' n,Gm.put s.ts x=.ok (ts',n)∧s'.ts=ts'.modify n.toNat fun t=>⟨t.nm,s.lv,k-3⟩:=by
 unfold Gm.decl1 at hd
 rw[if_neg (by omega),if_neg (by omega)]at hd
 by_cases h0:0≤Gm.find (Gm.names s.ts) x.t∧0<(s.ts.map Gm.Tm.lv).getD (Gm.find (Gm.names s.ts) x.t).toNat 0
 ·rw[if_pos h0]at hd;cases hd
 ·rw[if_neg h0]at hd
  obtain⟨⟨ts',n⟩,hp,hd⟩:=Gm.R.bind_eq hd
  injection hd with hd
  subst hd
  have hf:=Fit.put h.f hx hp
  refine⟨⟨⟨fun t ht=>?_,h.f.n,h.f.r,h.f.s⟩,?_,h.v⟩,rfl,h0,ts',n,hp,rfl⟩
  ·rcases Gm.mem_modify ht with q|⟨hn,rfl⟩
   ·exact hf.t t q
   ·have:=hf.t _ (List.getElem_mem hn)
    have hv0:=h.v
    exact⟨this.1,by unfold Gm.In;simp only;omega,by unfold Gm.In;simp only;omega⟩
  ·show(ts'.modify _ _).length≤24
   rw[List.length_modify];exact zfY h.h hp
theorem zdn {k:Int} {s:Gm.S1} {xs:List Tok} {i:Nat} (h:i<xs.length):Gm.declN k s (xs.drop i)=(Gm.decl1 k s xs[i]).bind fun s=>Gm.declN k s (xs.drop (i+1)):=by
 rw[List.drop_eq_getElem_cons h,Gm.declN]
theorem zha (L:List Int) (B N R:Nat) (ns:List (List Int)) (rs:List Gm.Rl) (ds:List Y.Dcl) (S S2:Gm.S1) (A:Option Addr) (c:Nat) (w:World) (hw:Wk w B N R S.ts ns rs S.lv) (hJ:J9 S ns rs) (hk:∀d∈ds,d.k=4∨d.k=5) (hx:∀d∈ds,(∀x∈d.ns,K.Tx x.t∧Gm.named x.t=true)∧d.ns.length≤1000000) (hr:zgB L w B A ds)
  (hN:N≤w.heap.size) (hB:B≤w.heap.size) (hlv:S.lv=0) (hlen:ds.length≤1000) (hp:Gm.decls S ds=.ok S2) :
  Calls Try.prog 36 #[.pointer (some ⟨R,0,none⟩),.slice A ds.length c] w fun e w'=>e=.returned (.tuple #[])∧(Wk w' B N R S2.ts ns rs S2.lv∧J9 S2 ns rs)∧Below B w w'∧KpT w w':=by
 have HR:=aA hr
 have HW0:=aA hw
 have HJ0:=aA hJ
 have HP:=aA hp
 have HKX:=aA (fun(i:Nat) (hi:i<ds.length)=>And.intro (hk _ (List.getElem_mem hi)) (hx _ (List.getElem_mem hi)))
 have HLV:=aA hlv
 clear hr hw hJ hp hk hx hlv
 go_enter Try.func36,Try.ntmps36
 go_wp2
 go_loopw [4] (fun vi wr=>∃(i:Nat) (s:Gm.S1),i≤ds.length∧vi=.int .i64 i∧Hid (Gm.decls s (ds.drop i)=.ok S2)∧Hid (J9 s ns rs)∧Hid (s.lv≤i)∧Hid (Wk wr B N R s.ts ns rs s.lv)∧Hid (Below B w wr)∧Hid (KpT w wr)) (fun vi _=>ds.length-(intOf vi).toNat)
 case atStart=>exact⟨0,S,Nat.zero_le _,rfl,HP,HJ0,aA (by rw[HLV.out];omega),HW0,aA (Below.refl _ _),aA (KpT.refl _)⟩
 case round =>
  rename World=>wo
  obtain⟨i,s,hi,rfl,HE,HJ,HSL,HW,HBW,HKT⟩:=hrel
  obtain⟨vT,vN,vR,hwr⟩:=HW.out
  have HRW:=aA hwr
  have f10:=(hwr.at 10).1
  obtain⟨f8,fz8,hRs⟩:=hwr.at 8
  simp only[wC,List.getElem?_toArray,List.getElem?_cons_zero,List.getElem?_cons_succ]at f10 f8
  clear hwr
  by_cases hlt:i<ds.length
  ·obtain⟨g,o,rfl,hgB,hc⟩:=HR.out (by omega)
   obtain⟨k0,A',c',k1,hrf⟩:=hc i hlt
   have k0:=(HBW.out.cell (p:=⟨g,o+i*2,none⟩) hgB).trans k0
   have k1:=(HBW.out.cell (p:=⟨g,o+i*2+1,none⟩) hgB).trans k1
   have hBs:=HBW.out.size
   have hgs:g<wo.heap.size:=by omega
   have hBr:B≤wo.heap.size:=by omega
   obtain⟨hdk,hdx,hdl⟩:=HKX.out i hlt
   have hE:=HE.out
   rw[zd8 hlt]at hE
   obtain⟨s1,h1,h2⟩:=Gm.R.bind_eq hE
   have HN1:=aA h2
   have HD1:=aA (zdM ds[i].ns h1)
   have hup:Gm.up ds[i].k s = {s with lv:=s.lv+1}:=by unfold Gm.up;rw[if_neg (by omega)]
   rw[hup]at h1 HD1
   have HDN:=aA h1
   have HRF:=aA hrf
   have HDX:=aA (fun(j:Nat) (hj:j<ds[i].ns.length)=>hdx _ (List.getElem_mem hj))
   clear hc hrf hE h1 h2 hdx hup
   generalize ds[i]=d at *
   rcases d with⟨kk,ms⟩
   simp only at hdk hdl HDX HRF HDN HD1 k0 k1
   have hlv1:s.lv+1≤1000000:=by have:=HSL.out;omega
   have hlv0:=HJ.out.v
   have HJ1:Hid (J9 {s with lv:=s.lv+1} ns rs):=aA ⟨HJ.out.f,HJ.out.h,by show 0≤s.lv+1;omega⟩
   have HA1:=aA (HRW.out.set 8 (.int .i64 (s.lv+1)))
   have HBs:=aA (HBW.out.setCell (p:=⟨R,8,none⟩) HRW.out.hR (.int .i64 (s.lv+1)))
   have HKs:=aA (HKT.out.trans (KpT.set HRW.out 8 (.int .i64 (s.lv+1))))
   have hzs:(wo.setCell ⟨R,8,none⟩ (.int .i64 (s.lv+1))).heap.size=wo.heap.size:=by simp
   generalize hws:wo.setCell ⟨R,8,none⟩ (.int .i64 (s.lv+1))=ws at *
   have HS1:Hid (Wk (ws.alloc (.cells #[.int .i64 kk,.slice A' ms.length c'] 115)) B N R s.ts ns rs (s.lv+1)):=aA ⟨vT,vN,vR,HA1.out.alloc _⟩
   have HB2:=aA (HBs.out.alloc (by rw[hzs];exact hBr) (.cells #[.int .i64 kk,.slice A' ms.length c'] 115))
   have HK2:=aA (HKs.out.trans (KpT.below ((Below.refl ws.heap.size ws).alloc (Nat.le_refl _) (.cells #[.int .i64 kk,.slice A' ms.length c'] 115))))
   have HDB:Hid ((ws.alloc (.cells #[.int .i64 kk,.slice A' ms.length c'] 115)).heap[wo.heap.size]?=some (.cells #[.int .i64 kk,.slice A' ms.length c'] 115 (0,0))):=aA (by rw[←hzs];exact heap_alloc_new ws _)
   have hk3:(kk != 3)=true:=by rcases hdk with rfl|rfl <;> decide
   have hk7:(kk != 7)=true:=by rcases hdk with rfl|rfl <;> decide
   have hk3':¬kk<3:=by omega
   have hk7':¬7<kk:=by omega
   go_wp2_with fail
   go_loopw [7] (fun vj wr=>∃(j:Nat) (t:Gm.S1),j≤ms.length∧vj=.int .i64 j∧Hid (Gm.declN kk t (ms.drop j)=.ok s1)∧Hid (J9 t ns rs)∧Hid (t.lv=s.lv+1)∧Hid (Wk wr B N R t.ts ns rs t.lv)∧Hid (Below B w wr)∧Hid (KpT w wr)∧Hid (wr.heap[wo.heap.size]?=some (.cells #[.int .i64 kk,.slice A' ms.length c'] 115 (0,0)))) (fun vj _=>ms.length-(intOf vj).toNat)
   case atStart=>exact⟨0,_,Nat.zero_le _,rfl,HDN,HJ1,aA rfl,HS1,HB2,HK2,HDB⟩
   case round =>
    clear hws hzs k0 k1 f10 f8 fz8 HDN HJ1 HS1 HB2 HK2 HDB HA1 HBs HKs
    obtain⟨j,t,hj,rfl,HE2,HJ2,HL2,HW2,HBW2,HKT2,HD2⟩:=hrel
    obtain⟨vT2,vN2,vR2,hwq⟩:=HW2.out
    have HRW2:=aA hwq
    obtain⟨f10,_,hRq⟩:=hwq.at 10
    simp only[wC,List.getElem?_toArray,List.getElem?_cons_zero,List.getElem?_cons_succ]at f10
    clear hwq
    have hDq:wo.heap.size<wr.heap.size:=(Array.getElem?_eq_some_iff.1 HD2.out).1
    have b0:wr.cell? ⟨wo.heap.size,0,none⟩=some (.int .i64 kk):=by rw[cell_of_row wr _ 0 _ _ _ HD2.out];rfl
    have b1:wr.cell? ⟨wo.heap.size,1,none⟩=some (.slice A' ms.length c'):=by rw[cell_of_row wr _ 1 _ _ _ HD2.out];rfl
    by_cases hjl:j<ms.length
    ·obtain⟨q,r,rfl,hqB,hcq⟩:=HRF.out (by omega)
     have m0:=(HBW2.out.cell (p:=⟨q,r+j*2,none⟩) hqB).trans (hcq j hjl).1
     have m1:=(HBW2.out.cell (p:=⟨q,r+j*2+1,none⟩) hqB).trans (hcq j hjl).2
     have hqs:q<wr.heap.size:=by have:=HBW2.out.size;omega
     have hE:=HE2.out
     rw[zdn hjl]at hE
     obtain⟨t1,h1,h2⟩:=Gm.R.bind_eq hE
     have HN2:=aA h2
     obtain⟨hx1,hx2⟩:=HDX.out j hjl
     obtain⟨j1,j2,j3,ts',n,hput,hts⟩:=HJ2.out.step hdk hx1 (by rw[HL2.out];exact hlv1) h1
     have HNX:Hid (J9 t1 ns rs∧t1.lv=s.lv+1):=aA ⟨j1,j2.trans HL2.out⟩
     have HBQ:=HBW2.out.size
     have HDCL:=aA (fun(y:World) (hy:Below wr.heap.size wr y)=>zfL L B N R t.ts ts' ns rs t.lv n kk ms[j] y (HW2.out.below hy) HJ2.out.f hx1 hx2 (Nat.le_trans hN (Nat.le_trans HBQ hy.size)) (Nat.le_trans (Nat.le_trans hB HBQ) hy.size) hdk j3 hput HJ2.out.h)
     rw[←hts,←j2]at HDCL
     have HDB9:=HDCL
     clear HDCL hcq hE h1 h2 j1 j2 j3 hput hts hx1 hx2 HBQ
     unfold aY at HDB9
     generalize K.str ms[j].t=sx at *
     unfold rfX rfY at m1
     generalize Fl.fl (Pl.pos (L.take ms[j].o)).1=X at *
     generalize Fl.fl (Pl.pos (L.take ms[j].o)).2=Y at *
     go_wp2_with fail
     have Q0:=fun y:On9 B wo.heap.size wr=>(show y.1.cell? ⟨wo.heap.size,0,none⟩=some (.int .i64 kk) by rw[cell_of_row y.1 _ 0 _ _ _ (y.2.2.trans HD2.out)];rfl)
     have Q1:=fun y:On9 B wo.heap.size wr=>(show y.1.cell? ⟨wo.heap.size,1,none⟩=some (.slice (some ⟨q,r,none⟩) ms.length c') by rw[cell_of_row y.1 _ 1 _ _ _ (y.2.2.trans HD2.out)];rfl)
     have Q2:=fun y:On9 B wo.heap.size wr=>(y.2.1.cell (p:=⟨q,r+j*2,none⟩) hqB).trans m0
     have Q3:=fun y:On9 B wo.heap.size wr=>(y.2.1.cell (p:=⟨q,r+j*2+1,none⟩) hqB).trans m1
     refine CalmN.region_tree (fun x=>∃y:On9 B wo.heap.size wr,x=y.1) (.one [0,1,2,3,4,5,6,7] 8 (.fin [])) (by kernel_rfl) (by kernel_rfl) (fun _ _ d _ _ h=>by cases d <;> exact h) ⟨⟨wr.drew,aB (Below.refl _ _) 1,rfl⟩,rfl⟩ ?_
     simp only[CalmN.wpT,CalmN.wpSt,CalmN.pickOps,List.getElem?_toArray,List.getElem?_cons_zero,List.getElem?_cons_succ]
     repeat (go_big_quiet_step (fail))
     refine wpQuiet_nil ?_
     clear Q0 Q1 Q2 Q3
     intro KK hKK
     try rw[if_pos (by rfl)]
     go_wp2_with fail
     refine(HDB9.out wr.drew (aB (Below.refl _ _) 1)).mono ?_;rintro _ w2 ⟨rfl,hw2,hb2,hk2⟩
     have HB3:=aA ((aB (Below.refl B wr) 1).trans hb2)
     have HK3:Hid (KpT wr w2):=aA hk2
     have HW3:=aA hw2
     have HD3:=aA (HK3.out _ _ _ HD2.out (by decide) (by decide))
     have HE3:Hid (w2.heap[wo.heap.size]?=wr.heap[wo.heap.size]?):=aA (HD3.out.trans HD2.out.symm)
     clear hw2 hb2 hk2
     go_wp2_with fail
     refine hKK _ _ ⟨⟨w2,HB3.out,HE3.out⟩,rfl⟩ (fun x=>∃y:On9 B wo.heap.size wr,x=y.1) (fun _ h=>h) ⟨⟨w2,HB3.out,HE3.out⟩,rfl⟩ ?_
     refine wpQuiet_nil ?_
     go_wp2
     go_roundw
     case rel=>exact⟨j+1,t1,hjl,by go_num,HN2,aA HNX.out.1,aA HNX.out.2,HW3,aA (HBW2.out.trans HB3.out),aA (HKT2.out.trans HK3.out),HD3⟩
     case measure=>simp[intOf];omega
    ·obtain rfl:j=ms.length:=by omega
     have hE:=HE2.out
     rw[List.drop_length,Gm.declN]at hE
     injection hE with hE
     subst hE
     go_wp2_with fail
     go_roundw
     case rel=>exact⟨i+1,t,hlt,by go_num,HN1,HJ2,aA (by rw[HL2.out];have:=HSL.out;omega),HW2,HBW2,HKT2⟩
     case measure=>simp[intOf];omega
  ·obtain rfl:i=ds.length:=by omega
   have hE:=HE.out
   rw[List.drop_length,Gm.decls]at hE
   injection hE with hE
   subst hE
   go_wp2
   go_end0
   exact⟨rfl,⟨HW.out,HJ.out⟩,HBW.out,HKT.out⟩
def zhh (rs:List Gm.Rl) (k:Nat):Prop:=∀i (h:i<rs.length),i<k→rs[i].r.length≤20
theorem zd6 (v:Value) (G:Gm.Gr) (B:Nat) (w:World) (hg:aS w B v G) (hB:B≤w.heap.size) :
  Calls Try.prog 5 #[v] w fun e w'=>e=.returned (.bool (Gm.great G))∧Below w.heap.size w w':=by
 have HB:=aA (fun o=>(Below.refl w.heap.size w).alloc (Nat.le_refl _) o)
 obtain⟨AT,cT,AN,cN,AR,cR,rfl,⟨hlT,hmT⟩,⟨hlN,hmN⟩,⟨hlR,hmR⟩,_,_,hr⟩:=hg
 have HR:=aA hr
 clear hr
 unfold Gm.great
 by_cases h1:40<G.ts.length
 ·rw[decide_eq_true h1]
  go_enter Try.func5,Try.ntmps5
  go_wp2
  go_ret
  exact⟨rfl,HB.out _⟩
 by_cases h2:40<G.ns.length
 ·rw[decide_eq_true h2]
  simp only[Bool.or_true,Bool.true_or]
  go_enter Try.func5,Try.ntmps5
  go_wp2
  go_ret
  exact⟨rfl,HB.out _⟩
 by_cases h3:60<G.rs.length
 ·rw[decide_eq_true h3]
  simp only[Bool.or_true,Bool.true_or]
  go_enter Try.func5,Try.ntmps5
  go_wp2
  go_ret
  exact⟨rfl,HB.out _⟩
 rw[decide_eq_false h1,decide_eq_false h2,decide_eq_false h3]
 simp only[Bool.false_or]
 have hlen:G.rs.length≤60:=by omega
 go_enter Try.func5,Try.ntmps5
 go_wp2
 go_loop [3] (fun vi=>∃(k:Nat),k≤G.rs.length∧vi=.int .i64 k∧zhh G.rs k) (fun vi=>G.rs.length-(intOf vi).toNat)
 case atStart=>exact⟨0,Nat.zero_le _,rfl,fun _ _ h=>by omega⟩
 case round =>
  obtain⟨k,hk,rfl,hn⟩:=hrel
  have HN:=aA hn
  clear hn
  by_cases hlt:k<G.rs.length
  ·obtain⟨g,o,rfl,hgb,hc⟩:=HR.out (by omega)
   obtain⟨_,⟨A',c',k1,k2,k3,_⟩,_⟩:=hc k hlt
   have hgs:g<w.heap.size:=by omega
   by_cases hx:20<G.rs[k].r.length
   ·have HE:Hid ((G.rs.any fun r=>decide (20<r.r.length))=true):=aA (List.any_eq_true.2 ⟨_,List.getElem_mem hlt,by simpa using hx⟩)
    generalize G.rs[k].r.length=m at *
    clear hc
    go_wp2
    go_ret
    exact⟨aF HE.out.symm,HB.out _⟩
   ·have HE:Hid (zhh G.rs (k+1)):=aA (fun i hi hik=>by
     rcases Nat.lt_or_ge i k with q|q
     ·exact HN.out i hi q
     ·obtain rfl:i=k:=by omega
      omega)
    generalize G.rs[k].r.length=m at *
    clear hc
    go_wp2
    go_round
    case rel=>exact⟨k+1,by omega,by go_num,HE.out⟩
    case measure=>simp[intOf];omega
  ·obtain rfl:k=G.rs.length:=by omega
   have HE:Hid ((G.rs.any fun r=>decide (20<r.r.length))=false):=aA (by
    rw[List.any_eq_false]
    intro x hx
    obtain⟨i,hi,rfl⟩:=List.getElem_of_mem hx
    have:=HN.out i hi hi
    simp;omega)
   go_wp2
   go_ret
   exact⟨aF HE.out.symm,HB.out _⟩
theorem a7.alloc {w:World} {base:Nat} {v:Value} {ws:List (List Int)} (h:a7 w base v ws) (o:Obj):a7 (w.alloc o) base v ws:=World.ownsRow.alloc h o
theorem a7.less {w:World} {base base':Nat} {v:Value} {ws:List (List Int)} (h:a7 w base v ws) (hb:base'≤base):a7 w base' v ws:=by
 refine⟨h.1,?_⟩
 rcases h.2 with h0|⟨g,cap,cur,e,hb1,hr⟩
 ·exact .inl h0
 ·exact .inr ⟨g,cap,cur,e,by omega,hr⟩
theorem a7.drewN {w:World} {base:Nat} {v:Value} {ws:List (List Int)} (h:a7 w base v ws) (n:Nat):a7 (w.drewN n) base v ws:=h
theorem a7.below {w w':World} {base:Nat} {v:Value} {ws:List (List Int)} (h:a7 w base v ws) (hb:Below w.heap.size w w'):a7 w' base v ws :=
 World.ownsRow.kept h (zae hb .none) (by rcases v.ownBlock with _|k;exact .inl rfl;exact .inr (by simp))
theorem a7.form {w:World} {base:Nat} {v:Value} {ws:List (List Int)} (h:a7 w base v ws):∃A c,v=.slice A ws.length c∧ws.length≤c∧c≤maxLen:=zab h
namespace Sh
open Gm
end Sh
namespace Sh
open Gm
end Sh
theorem zdP {w:World} {o:Oper} {a:Act} {KK:Act→World→Prop} {Q:Exit→Act→World→Prop}
  (s x:Operand) (t:TypeId) (ho:o.op=.call {callee:=.builtin .append,args:=#[s,x],argTypes:=#[t,t]}) (ht:Try.prog.underlying t=some (.slice 9))
  (base:Nat) (v:Value) (ts:List (List Int)) (hs:a.eval s=v) (hown:a7 w base v ts) (g c:Nat) (y:List Int) (hx:a.eval x=.slice (some ⟨g,0,none⟩) 1 c) (hz:w.cell? ⟨g,0,none⟩=some (.string (K.str y)))
  (hlen:ts.length≤1000000) (hbase:base≤w.heap.size)
  (hK:∀v' w',a7 w' base v' (ts++[y])→w.grownBy w' v.ownBlock→(v'.ownBlock=v.ownBlock∨v'.ownBlock=some w.heap.size)→KK (a.put o.dst v') w') :
  o.wp Try.prog a w KK Q:=by
 obtain⟨i,hi,hz0,hz1,hz2⟩:=info_parts zgX
 obtain⟨v',w',hr,h2,h3,h4,h5⟩:=run_append_own_at (P:=Try.prog) w base t o.type 9 i (.string ⟨#[]⟩) 1 16 ht hi hz0 hz1 hz2 rfl (by decide) v ts.length (zho ts) hown ⟨g,0,none⟩ 1 c [.string (K.str y)] rfl (by
  intro j u hj
  rw[zdr,Nat.zero_add]
  rcases j with _|j
  ·simp at hj;rw[←hj];exact hz
  ·simp at hj) (by intro u hu;simp at hu;rcases hu with rfl;rfl) (by unfold maxLen;omega) (by omega) hbase
 unfold Oper.wp execOp
 simp only[ho,resolve,invoke,builtin,Sem.run_bind,Sem.run_pure,Result.andThen_ok,List.map_toArray,List.map_cons,List.map_nil,hs,hx,hr]
 refine hK v' w' ?_ h3 h5
 unfold a7 zho
 rw[List.length_append,List.map_append];exact h2
theorem KpT.beyond {w wr w':World} {row:Option Nat} (h:KpT w wr) (hg:wr.grownBy w' row) (hr:∀k,row=some k→w.heap.size≤k):KpT w w':=fun g cs T h1 h2 h3=>by
 have hk:=h g cs T h1 h2 h3
 refine(hg.block g (Array.getElem?_eq_some_iff.1 hk).1 (fun e=>?_)).trans hk
 have:=hr g e.symm
 have:=(Array.getElem?_eq_some_iff.1 h1).1
 omega
theorem aK.kpT {w w':World} {base:Nat} {v:Value} {xs:List Int} (h:aK w base v xs) (hk:KpT w w'):aK w' base v xs:=by
 refine⟨h.1,?_⟩
 rcases h.2 with h0|⟨g,cap,cur,e,hb,hg,hr⟩
 ·exact .inl h0
 ·exact .inr ⟨g,cap,cur,e,hb,hk g cur _ hg (by decide) (by decide),hr⟩
theorem aK.off9 {w:World} {N:Nat} {v:Value} {xs:List Int} (h:aK w N v xs):Off9 w N v.ownBlock:=⟨fun g e=>by
 obtain⟨h1,cur,h2⟩:=aH h e
 exact⟨_,_,h2,by decide,by decide,by decide,.inr h1⟩⟩
theorem Wk.grown {w w':World} {B N R:Nat} {ts:List Gm.Tm} {ns:List (List Int)} {rs:List Gm.Rl} {lv:Int} {row:Option Nat} (h:Wk w B N R ts ns rs lv) (hg:w.grownBy w' row) (ho:Off9 w N row):Wk w' B N R ts ns rs lv:=by
 obtain⟨vT,vN,vR,h⟩:=h;exact⟨vT,vN,vR,h.grown hg ho⟩
structure PrJ (w0 wr:World) (B R Q:Nat) (ns:List (List Int)) (rs:List Gm.Rl) (lv:Int) (ts:List Gm.Tm) (PC:Array Value) (lf:Int) (v:Value) (acc:List Int) (p:Int):Prop where
 b:Wk wr B w0.heap.size R ts ns rs lv
 f:Gm.Fit ⟨ts,ns,rs,0⟩
 t:ts.length≤24
 w:Below B w0 wr
 k:KpT w0 wr
 q:w0.heap.size<Q
 pb:wr.heap[w0.heap.size]?=some (.cells PC 85 (0,0))
 qb:wr.heap[Q]?=some (.cells #[.int .i64 lf,v,.int .i64 p] 42 (0,0))
 o:aK wr w0.heap.size v acc
section
variable {w0 wr w':World} {B R Q:Nat} {ns:List (List Int)} {rs:List Gm.Rl} {lv:Int} {ts:List Gm.Tm} {PC:Array Value} {lf p p':Int} {v v':Value} {acc acc':List Int}
theorem PrJ.alloc (h:PrJ w0 wr B R Q ns rs lv ts PC lf v acc p) (o:Obj) (hB:B≤w0.heap.size):PrJ w0 (wr.alloc o) B R Q ns rs lv ts PC lf v acc p :=
 ⟨h.b.alloc o,h.f,h.t,h.w.alloc (Nat.le_trans hB h.w.size) o,h.k.trans (KpT.below ((Below.refl _ _).alloc (Nat.le_refl _) o)),h.q,(Below.heap_alloc wr o _ (Array.getElem?_eq_some_iff.1 h.pb).1).trans h.pb,(Below.heap_alloc wr o _ (Array.getElem?_eq_some_iff.1 h.qb).1).trans h.qb,h.o.alloc o⟩
theorem PrJ.call (h:PrJ w0 wr B R Q ns rs lv ts PC lf v acc p) {ts':List Gm.Tm} (hb:Wk w' B w0.heap.size R ts' ns rs lv) (hw:Below B wr w') (hk:KpT wr w') (hf:Gm.Fit ⟨ts',ns,rs,0⟩) (ht:ts'.length≤24):PrJ w0 w' B R Q ns rs lv ts' PC lf v acc p :=
 ⟨hb,hf,ht,h.w.trans hw,h.k.trans hk,h.q,hk _ _ _ h.pb (by decide) (by decide),hk _ _ _ h.qb (by decide) (by decide),h.o.kpT hk⟩
theorem PrJ.off (hq:w0.heap.size<Q) (qb:wr.heap[Q]?=some (.cells #[.int .i64 lf,v,.int .i64 p] 42 (0,0))):Off9 wr w0.heap.size (some Q):=⟨fun g e=>by
 injection e with e
 subst e
 exact⟨_,_,qb,by decide,by decide,by decide,.inr (by omega)⟩⟩
theorem PrJ.setQ (h:PrJ w0 wr B R Q ns rs lv ts PC lf v acc p) (j:Nat) (u:Value) (hu:(#[.int .i64 lf,v,.int .i64 p]:Array Value).setIfInBounds j u=#[.int .i64 lf,v',.int .i64 p']) (ho:aK (wr.setCell ⟨Q,j,none⟩ u) w0.heap.size v' acc) (hB:B≤w0.heap.size):PrJ w0 (wr.setCell ⟨Q,j,none⟩ u) B R Q ns rs lv ts PC lf v' acc p':=by
 have hg:wr.grownBy (wr.setCell ⟨Q,j,none⟩ u) (some Q):=aD (World.grownBy.refl _ _) j u
 have hq:=h.q
 refine⟨h.b.grown hg (PrJ.off h.q h.qb),h.f,h.t,h.w.setCell (by simp only;omega) u,h.k.beyond hg (fun k e=>by injection e with e;omega),h.q,(Below.heap_setCell wr ⟨Q,j,none⟩ u w0.heap.size (by simp only;omega)).trans h.pb,?_,ho⟩
 rw[←hu]
 exact heap_setCell_same wr _ j _ _ u h.qb
theorem PrJ.app (h:PrJ w0 wr B R Q ns rs lv ts PC lf v acc p) (ho:aK w' w0.heap.size v' acc') (hg:wr.grownBy w' v.ownBlock) (hB:B≤w0.heap.size) :
  (w'.heap[Q]?=some (.cells #[.int .i64 lf,v,.int .i64 p] 42 (0,0)))∧PrJ w0 (w'.setCell ⟨Q,1,none⟩ v') B R Q ns rs lv ts PC lf v' acc' p:=by
 have hb':=h.b.grown hg h.o.off9
 have pb':=zaM h.pb h.o (by decide) hg
 have qb':=zaM h.qb h.o (by decide) hg
 have hN:∀k,v.ownBlock=some k→w0.heap.size≤k:=fun k e=>(aH h.o e).1
 have hw':=h.w.grown hg (Nat.le_trans hB h.w.size) (fun k e=>Nat.le_trans hB (hN k e))
 have hk':=h.k.beyond hg hN
 have hq:=h.q
 have hg2:w'.grownBy (w'.setCell ⟨Q,1,none⟩ v') (some Q):=aD (World.grownBy.refl _ _) 1 v'
 exact⟨qb',hb'.grown hg2 (PrJ.off h.q qb'),h.f,h.t,hw'.setCell (by simp only;omega) v',hk'.beyond hg2 (fun k e=>by injection e with e;omega),h.q,(Below.heap_setCell w' ⟨Q,1,none⟩ v' w0.heap.size (by simp only;omega)).trans pb',heap_setCell_same w' _ 1 _ _ v' qb',ho.set_away qb' 1 v'⟩
end
theorem zcE {ns:List (List Int)} {rs:List Gm.Rl} {ts ts':List Gm.Tm} {x:Tok} {z:Int} (h:Gm.symR ns ts x=.ok (ts',z)) (hx:K.Tx x.t) (hf:Gm.Fit ⟨ts,ns,rs,0⟩):((0≤Gm.find ns x.t∧true=true∧ts'=ts∧z = -1-Gm.find ns x.t)∨(Gm.find ns x.t<0∧Gm.sym ts x=.ok (ts',z)))∧Gm.Fit ⟨ts',ns,rs,0⟩:=by
 unfold Gm.symR at h
 split at h
 ·rename_i h0
  injection h with h
  injection h with h1 h2
  subst h1
  exact⟨.inl ⟨h0,rfl,rfl,h2.symm⟩,hf⟩
 ·rename_i h0
  refine⟨.inr ⟨by omega,h⟩,?_⟩
  unfold Gm.sym at h
  split at h
  ·exact Fit.put hf hx h
  ·cases h
theorem zcF {ns:List (List Int)} {rs:List Gm.Rl} {ts ts':List Gm.Tm} {x:Tok} {z:Int} (h:Gm.symP ns ts x=.ok (ts',z)) (hx:K.Tx x.t) (hf:Gm.Fit ⟨ts,ns,rs,0⟩):((0≤Gm.find ns x.t∧false=true∧ts'=ts∧z = -1-Gm.find ns x.t)∨(Gm.find ns x.t<0∧Gm.sym ts x=.ok (ts',z)))∧Gm.Fit ⟨ts',ns,rs,0⟩:=by
 unfold Gm.symP at h
 split at h
 ·cases h
 ·rename_i h0
  refine⟨.inr ⟨by omega,h⟩,?_⟩
  unfold Gm.sym at h
  split at h
  ·exact Fit.put hf hx h
  ·cases h
end Go.Proofs.Ytcgclkndkahgaaa
namespace Go.Proofs.Ytcgclkndkahgaaa
set_option maxRecDepth 100000
set_option maxHeartbeats 40000000
open Go.RowKit
def rd (L:List Int):Option (Gm.R Gm.Gr):=match zf7 L with
 | .bad _ _=>none
 | .ok xs=>match Y.source xs with
  | .ok s _=>some (Gm.build s.1 s.2)
  | .bad _=>none
def OnP (ps:List Nat) (w:World):Type:={x:World // ∀g∈ps,x.heap[g]?=w.heap[g]?}
instance (ps:List Nat) (w:World):Nonempty (OnP ps w):=⟨⟨w,fun _ _=>rfl⟩⟩
theorem OnP.cell {ps:List Nat} {w:World} (y:OnP ps w) {p:Addr} (h:p.block∈ps):y.1.cell? p=w.cell? p:=World.cell?_of_block (y.2 _ h)
theorem OnP.row {ps:List Nat} {w:World} (y:OnP ps w) {g j:Nat} {cs:Array Value} {t:TypeId} {fr:Nat×Nat} {u:Value} (h:g∈ps) (hb:w.heap[g]?=some (.cells cs t fr)) (hj:cs[j]?=some u):y.1.cell? ⟨g,j,none⟩=some u :=
 (cell_of_row y.1 g j _ _ _ ((y.2 g h).trans hb)).trans hj
structure KeepX (t:TypeId) (w w':World):Prop where
 size:w.heap.size≤w'.heap.size
 keep:∀(g:Nat) (cs:Array Value) (u:TypeId) (fr:Nat×Nat),w.heap[g]?=some (.cells cs u fr)→u≠t→w'.heap[g]?=some (.cells cs u fr)
section
variable {t:TypeId} {w w' w2:World}
theorem KeepX.refl (t:TypeId) (w:World):KeepX t w w:=⟨Nat.le_refl _,fun _ _ _ _ h _=>h⟩
theorem KeepX.trans (h:KeepX t w w') (k:KeepX t w' w2):KeepX t w w2:=⟨Nat.le_trans h.size k.size,fun g cs u fr h1 h2=>k.keep g cs u fr (h.keep g cs u fr h1 h2) h2⟩
theorem KeepX.of_below (h:Below w.heap.size w w'):KeepX t w w':=⟨h.size,fun g _ _ _ h1 _=>(h.block g (Array.getElem?_eq_some_iff.1 h1).1).trans h1⟩
theorem KeepX.drewN (h:KeepX t w w') (n:Nat):KeepX t w (w'.drewN n):=⟨h.size,h.keep⟩
theorem KeepX.alloc (h:KeepX t w w') (o:Obj):KeepX t w (w'.alloc o):=h.trans (KeepX.of_below ((Below.refl _ _).alloc (Nat.le_refl _) _))
theorem KeepX.grown (h:KeepX t w w') {base m n:Nat} {v:Value} {xs:List Value} (ho:w'.ownsRow base t m v n xs) (hg:w'.grownBy w2 v.ownBlock):KeepX t w w2 :=
 h.trans ⟨hg.size,fun g cs u fr h1 h2=>(hg.block g (Array.getElem?_eq_some_iff.1 h1).1 (fun e=>by
  rcases ho.2 with⟨rfl,_⟩|⟨g',cap,cur,rfl,_,hb,_⟩
  ·cases e
  ·injection e with e
   subst e
   rw[hb]at h1
   injection h1 with h1
   injection h1 with _ h1 _
   exact h2 h1.symm)).trans h1⟩
theorem KeepX.row (h:KeepX t w w') {g:Nat} {cs:Array Value} {u:TypeId} {fr:Nat×Nat} (hb:w.heap[g]?=some (.cells cs u fr)) (hu:u≠t):w'.heap[g]?=some (.cells cs u fr):=h.keep g cs u fr hb hu
end
theorem zbY {w:World} {b1 b2 m1 m2 n1 n2:Nat} {t1 t2:TypeId} {v1 v2:Value} {x1 x2:List Value} (h1:w.ownsRow b1 t1 m1 v1 n1 x1) (h2:w.ownsRow b2 t2 m2 v2 n2 x2) (ht:t1≠t2):v1.ownBlock=none∨v1.ownBlock≠v2.ownBlock:=by
 rcases h1.2 with⟨rfl,_⟩|⟨g,cap,cur,rfl,_,hg,_⟩
 ·exact .inl rfl
 ·refine .inr fun e=>?_
  rcases h2.2 with⟨rfl,_⟩|⟨g',cap',cur',rfl,_,hg',_⟩
  ·cases e
  ·injection e with e
   subst e
   rw[hg]at hg'
   injection hg' with hg'
   injection hg' with _ hg' _
   exact ht hg'
theorem zaQ {w:World} {b m n g:Nat} {t t2:TypeId} {v:Value} {xs:List Value} {cs:Array Value} {fr:Nat×Nat} (h:w.ownsRow b t m v n xs) (hb:w.heap[g]?=some (.cells cs t2 fr)) (ht:t≠t2):v.ownBlock=none∨v.ownBlock≠some g:=by
 rcases h.2 with⟨rfl,_⟩|⟨g',cap,cur,rfl,_,hg,_⟩
 ·exact .inl rfl
 ·refine .inr fun e=>?_
  injection e with e
  subst e
  rw[hg]at hb
  injection hb with hb
  injection hb with _ hb _
  exact ht hb
end Go.Proofs.Ytcgclkndkahgaaa
namespace Go.Proofs.Ytcgclkndkahgaaa
set_option maxRecDepth 100000
set_option maxHeartbeats 40000000
open Go.RowKit
theorem zeV {l:List Int} {p:Int→Bool} {k:Nat} (h:k<l.length):(l.take (k+1)).any p=((l.take k).any p||p l[k]):=by
 rw[List.take_succ_eq_append_getElem h,List.any_append];simp
theorem zg6 {l:List Int} {p:Int→Bool} {k:Nat} (h:k<l.length) (hp:p l[k]=true):l.any p=true:=List.any_eq_true.2 ⟨_,List.getElem_mem h,hp⟩
theorem zdl (fb:Nat) (cp:Value) (hE:∀args w,Sem.run Try.prog (callFunc fb args) w=.ok (.enter fb args) w) (l:List Int) (p:Int→Bool) (A:Option Addr) (c B:Nat) (w:World) (hr:RdI w B A l) (hB:B≤w.heap.size) (hl:l.length≤9223372036854775807)
  (hp:∀y z,Below w.heap.size w y→z∈l→Calls Try.prog fb #[.int .i64 z,cp] y fun e w'=>e=.returned (.bool (p z))∧Below y.heap.size y w') :
  Calls Try.prog 28 #[.slice A l.length c,.func (Fn.func fb) #[] #[cp]] w fun e w'=>(∃k:Int,e=.returned (.int .i64 k)∧decide (0≤k)=l.any p)∧Below w.heap.size w w':=by
 have HR:=aA hr
 have HB:=aA hB
 have HP:=aA hp
 have hlen:(l.length:Int)≤9223372036854775807:=by omega
 clear hr hp hB hl
 go_enter Try.func28,Try.ntmps28
 go_wp2
 go_loopw [8] (fun vi wr=>∃k:Nat,k≤l.length∧vi=.int .i64 k∧Hid ((l.take k).any p=false)∧Hid (Below w.heap.size w wr)) (fun vi _=>l.length-(intOf vi).toNat)
 case atStart=>exact⟨0,Nat.zero_le _,rfl,aA (by simp),aA (Below.refl _ _)⟩
 case round =>
  obtain⟨k,hk,rfl,HK,HW⟩:=hrel
  by_cases hlt:k<l.length
  ·obtain⟨g,o,rfl,hgb,hc⟩:=HR.out (by omega)
   have k0:=(HW.out.cell (p:=⟨g,o+k,none⟩) (Nat.lt_of_lt_of_le hgb HB.out)).trans (hc k hlt)
   rw[L.gd_lt hlt]at k0
   have HPz:=aA (HP.out wr _ HW.out (List.getElem_mem hlt))
   have HN:=aA (zeV (p:=p) hlt)
   have HY:=aA (fun h=>zg6 (p:=p) hlt h)
   clear hc
   generalize l[k]=z at *
   cases hz:p z
   ·rw[hz]at HPz HN
    have HX:=aA (HN.out.trans (by rw[HK.out]))
    clear hz HN HY
    go_wp2_with fail
    refine HPz.out.mono ?_;rintro _ w2 ⟨rfl,hb⟩
    have HW2:=aA (HW.out.trans (hb.mono HW.out.size))
    clear hb
    go_wp2
    go_roundw
    case rel=>exact⟨k+1,hlt,by go_num,HX,HW2⟩
    case measure=>simp[intOf];omega
   ·rw[hz]at HPz
    have HX:=aA (HY.out hz)
    clear hz HN HY
    go_wp2_with fail
    refine HPz.out.mono ?_;rintro _ w2 ⟨rfl,hb⟩
    have HW2:=aA (HW.out.trans (hb.mono HW.out.size))
    clear hb
    go_wp2
    go_ret
    exact⟨⟨_,rfl,by rw[HX.out,decide_eq_true (by omega)]⟩,HW2.out⟩
  ·obtain rfl:k=l.length:=by omega
   rw[List.take_length]at HK
   go_wp2
   go_ret
   exact⟨⟨_,rfl,by rw[HK.out];rfl⟩,HW.out⟩
theorem zcW (fb:Nat) (cp:Value) (hE:∀args w,Sem.run Try.prog (callFunc fb args) w=.ok (.enter fb args) w) (l:List Int) (p:Int→Bool) (A:Option Addr) (c B:Nat) (w:World) (hr:RdI w B A l) (hB:B≤w.heap.size) (hl:l.length≤9223372036854775807)
  (hp:∀y z,Below w.heap.size w y→z∈l→Calls Try.prog fb #[.int .i64 z,cp] y fun e w'=>e=.returned (.bool (p z))∧Below y.heap.size y w') :
  Calls Try.prog 15 #[.slice A l.length c,.func (Fn.func fb) #[] #[cp]] w fun e w'=>e=.returned (.bool (l.any p))∧Below w.heap.size w w':=by
 have H:=aA (zdl fb cp hE l p A c B w hr hB hl hp)
 clear hr hB hl hp
 go_enter Try.func15,Try.ntmps15
 go_wp2_with fail
 refine H.out.mono ?_;rintro _ w2 ⟨⟨k,rfl,hk⟩,hb⟩
 have HK:=aA hk
 have HB:=aA hb
 clear hk hb
 go_wp2
 go_ret
 exact⟨aF HK.out,HB.out⟩
theorem zcV (fb:Nat) (cp:Value) (hE:∀args w,Sem.run Try.prog (callFunc fb args) w=.ok (.enter fb args) w) (l:List Int) (p:Int→Bool) (A:Option Addr) (c B:Nat) (w:World) (hr:RdI w B A l) (hB:B≤w.heap.size) (hl:l.length≤9223372036854775807)
  (hp:∀y z,Below w.heap.size w y→z∈l→Calls Try.prog fb #[cp,.int .i64 z] y fun e w'=>e=.returned (.bool (p z))∧Below y.heap.size y w') :
  Calls Try.prog 28 #[.slice A l.length c,.func (Fn.func fb) #[cp] #[]] w fun e w'=>(∃k:Int,e=.returned (.int .i64 k)∧decide (0≤k)=l.any p)∧Below w.heap.size w w':=by
 have HR:=aA hr
 have HB:=aA hB
 have HP:=aA hp
 have hlen:(l.length:Int)≤9223372036854775807:=by omega
 clear hr hp hB hl
 go_enter Try.func28,Try.ntmps28
 go_wp2
 go_loopw [8] (fun vi wr=>∃k:Nat,k≤l.length∧vi=.int .i64 k∧Hid ((l.take k).any p=false)∧Hid (Below w.heap.size w wr)) (fun vi _=>l.length-(intOf vi).toNat)
 case atStart=>exact⟨0,Nat.zero_le _,rfl,aA (by simp),aA (Below.refl _ _)⟩
 case round =>
  obtain⟨k,hk,rfl,HK,HW⟩:=hrel
  by_cases hlt:k<l.length
  ·obtain⟨g,o,rfl,hgb,hc⟩:=HR.out (by omega)
   have k0:=(HW.out.cell (p:=⟨g,o+k,none⟩) (Nat.lt_of_lt_of_le hgb HB.out)).trans (hc k hlt)
   rw[L.gd_lt hlt]at k0
   have HPz:=aA (HP.out wr _ HW.out (List.getElem_mem hlt))
   have HN:=aA (zeV (p:=p) hlt)
   have HY:=aA (fun h=>zg6 (p:=p) hlt h)
   clear hc
   generalize l[k]=z at *
   cases hz:p z
   ·rw[hz]at HPz HN
    have HX:=aA (HN.out.trans (by rw[HK.out]))
    clear hz HN HY
    go_wp2_with fail
    refine HPz.out.mono ?_;rintro _ w2 ⟨rfl,hb⟩
    have HW2:=aA (HW.out.trans (hb.mono HW.out.size))
    clear hb
    go_wp2
    go_roundw
    case rel=>exact⟨k+1,hlt,by go_num,HX,HW2⟩
    case measure=>simp[intOf];omega
   ·rw[hz]at HPz
    have HX:=aA (HY.out hz)
    clear hz HN HY
    go_wp2_with fail
    refine HPz.out.mono ?_;rintro _ w2 ⟨rfl,hb⟩
    have HW2:=aA (HW.out.trans (hb.mono HW.out.size))
    clear hb
    go_wp2
    go_ret
    exact⟨⟨_,rfl,by rw[HX.out,decide_eq_true (by omega)]⟩,HW2.out⟩
  ·obtain rfl:k=l.length:=by omega
   rw[List.take_length]at HK
   go_wp2
   go_ret
   exact⟨⟨_,rfl,by rw[HK.out];rfl⟩,HW.out⟩
theorem zd7 (fb:Nat) (cp:Value) (hE:∀args w,Sem.run Try.prog (callFunc fb args) w=.ok (.enter fb args) w) (l:List Int) (p:Int→Bool) (A:Option Addr) (c B:Nat) (w:World) (hr:RdI w B A l) (hB:B≤w.heap.size) (hl:l.length≤9223372036854775807)
  (hp:∀y z,Below w.heap.size w y→z∈l→Calls Try.prog fb #[cp,.int .i64 z] y fun e w'=>e=.returned (.bool (p z))∧Below y.heap.size y w') :
  Calls Try.prog 15 #[.slice A l.length c,.func (Fn.func fb) #[cp] #[]] w fun e w'=>e=.returned (.bool (l.any p))∧Below w.heap.size w w':=by
 have H:=aA (zcV fb cp hE l p A c B w hr hB hl hp)
 clear hr hB hl hp
 go_enter Try.func15,Try.ntmps15
 go_wp2_with fail
 refine H.out.mono ?_;rintro _ w2 ⟨⟨k,rfl,hk⟩,hb⟩
 have HK:=aA hk
 have HB:=aA hb
 clear hk hb
 go_wp2
 go_ret
 exact⟨aF HK.out,HB.out⟩
def Gm.ps (tm:Bool) (is:List Bool) (z:Int):Bool:=if 0≤z then tm else is.getD (-1-z).toNat false
theorem Gm.allB_ps (tm:Bool) (is:List Bool) (r:List Int):Gm.allB tm is r=r.all (Gm.ps tm is):=rfl
theorem Gm.ps_non {tm:Bool} {is:List Bool} {z:Int} (h:z<0):∃m:Nat,-1-z=(m:Int)∧Gm.ps tm is z=is.getD m false:=by
 refine⟨(-1-z).toNat,by omega,?_⟩
 unfold Gm.ps
 rw[if_neg (by omega)]
theorem Gm.ps_term {tm:Bool} {is:List Bool} {z:Int} (h:¬z<0):Gm.ps tm is z=tm:=by unfold Gm.ps;rw[if_pos (by omega)]
theorem zct {f:Nat} {fn:Func} (hf:Try.prog.funcs[f]?=some fn) (hb:fn.body.isNone=false) (hn:(fn.name == "runtime.NumGoroutine")=false) (args:Array Value) (w:World):Sem.run Try.prog (callFunc f args) w=.ok (.enter f args) w:=by
 have hn2:¬fn.name = "runtime.NumGoroutine" := by simpa using hn
 have hb2:fn.body≠none:=by intro h;rw[h]at hb;cases hb
 simp[callFunc,go_sem,hf,hb2,hn2]
end Go.Proofs.Ytcgclkndkahgaaa
