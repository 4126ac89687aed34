/- Part of the proofs over this program: Great15. -/
import Derived.Test.YtabmfpgpkbndeaaGreatKAL
namespace Go.Proofs.YtabmfpgpkbndeaaGreat
set_option maxRecDepth 100000
set_option maxHeartbeats 40000000
open Go.RowKit
def Au.bigS (x:StT):Bool:=decide (300<x.1.length)||decide (100<x.2.length)
def Au.greatS (ss:List StT):Bool:=decide (310<ss.length)||ss.any Au.bigS
theorem Au.greatS_no {ss:List StT}:Au.greatS ss=false↔ss.length≤310∧∀x∈ss,x.1.length≤300∧x.2.length≤100:=by
 unfold Au.greatS
 rw[Bool.or_eq_false_iff,decide_eq_false_iff_not,List.any_eq_false]
 refine and_congr (by omega) (forall_congr' fun x=>forall_congr' fun _=>?_)
 unfold Au.bigS
 simp
theorem zcf (ss:List StT) (A:Option Addr) (c B:Nat) (w:World) (hr:bI w B A ss) (hB:B≤w.heap.size) (hn:ss.length≤9223372036854775807) :
  Calls Tryz.prog 20 #[.slice A ss.length c] w fun e w'=>e=.returned (.bool (Au.greatS ss))∧Below w.heap.size w w':=by
 have HR:=aA hr
 have HG:Hid (Au.greatS ss=(decide (310<ss.length)||ss.any Au.bigS)):=aA rfl
 have hnI:(ss.length:Int)≤9223372036854775807:=by omega
 clear hr hn
 go_enter Tryz.func20,Tryz.ntmps20
 by_cases h3:310<ss.length
 ·have h3I:(310:Int)<(ss.length:Int):=by omega
  have HT:Hid (Au.greatS ss=true):=aA (by rw[HG.out,decide_eq_true h3];rfl)
  clear h3
  generalize ss.length=n at *
  go_wp2
  go_ret
  exact⟨by rw[HT.out];rfl,Below.refl _ _⟩
 ·have h3I:(ss.length:Int)≤(310:Int):=by omega
  have HT:Hid (Au.greatS ss=ss.any Au.bigS):=aA (by rw[HG.out,decide_eq_false h3];rfl)
  have HLL:Hid (ss.length≤310):=aA (by omega)
  clear h3
  go_wp2
  go_loopw [3] (fun vi wr=>∃i:Nat,i≤ss.length∧vi=.int .i64 i∧Hid (wr=w)∧Hid (∀j (h:j<ss.length),j<i→Au.bigS ss[j]=false)) (fun vi _=>ss.length-(intOf vi).toNat)
  case atStart=>exact⟨0,Nat.zero_le _,rfl,aA rfl,aA (fun j _ h=>absurd h (Nat.not_lt_zero _))⟩
  case round =>
   obtain⟨i,hi,rfl,HW,HJ⟩:=hrel
   obtain rfl:=HW.out
   by_cases hlt:i<ss.length
   ·obtain⟨g,o,rfl,hgB,hc⟩:=HR.out (by omega)
    obtain⟨⟨A1,c1,k1,_,_,_⟩,⟨A2,c2,k2,_,_,_⟩⟩:=hc i hlt
    have lg:g<wr.heap.size:=by omega
    have HY:Hid (Au.bigS ss[i]=true→ss.any Au.bigS=true):=aA (fun h=>List.any_eq_true.2 ⟨_,List.getElem_mem hlt,h⟩)
    have HN:Hid (Au.bigS ss[i]=false→∀j (h:j<ss.length),j<i+1→Au.bigS ss[j]=false):=aA (fun h j hj hji=>by
     by_cases e:j=i
     ·subst e;exact h
     ·exact HJ.out j hj (by omega))
    have HBG:Hid (Au.bigS ss[i]=(decide (300<(ss[i]).1.length)||decide (100<(ss[i]).2.length))):=aA rfl
    have hii:(i:Int)<(ss.length:Int):=by omega
    generalize (ss[i]).1.length=n1 at *
    generalize (ss[i]).2.length=n2 at *
    generalize Au.bigS ss[i]=bb at *
    clear hc HJ
    by_cases h1:300<n1
    ·have h1I:(300:Int)<(n1:Int):=by omega
     have HY2:Hid (ss.any Au.bigS=true):=aA (HY.out (by rw[HBG.out,decide_eq_true h1];rfl))
     clear h1
     go_wp2
     go_ret
     exact⟨by rw[HT.out,HY2.out];rfl,Below.refl _ _⟩
    ·have h1I:(n1:Int)≤(300:Int):=by omega
     by_cases h2:100<n2
     ·have h2I:(100:Int)<(n2:Int):=by omega
      have HY2:Hid (ss.any Au.bigS=true):=aA (HY.out (by rw[HBG.out,decide_eq_true h2];simp))
      clear h1 h2
      go_wp2
      go_ret
      exact⟨by rw[HT.out,HY2.out];rfl,Below.refl _ _⟩
     ·have h2I:(n2:Int)≤(100:Int):=by omega
      have HN2:=aA (HN.out (by rw[HBG.out,decide_eq_false h1,decide_eq_false h2];rfl))
      clear h1 h2 HN HY HBG
      go_wp2
      go_roundw
      case rel=>exact⟨i+1,hlt,by go_num,aA trivial,HN2⟩
      case measure=>simp[intOf];omega
   ·have HZ:Hid (ss.any Au.bigS=false):=aA (List.any_eq_false.2 fun x hx=>by
     obtain⟨j,hj,e⟩:=List.getElem_of_mem hx
     rw[←e,HJ.out j hj (by omega)];decide)
    have hni:¬((i:Nat):Int)<((ss.length:Nat):Int):=by omega
    clear hlt hi HJ
    go_wp2
    go_ret
    exact⟨by rw[HT.out,HZ.out];rfl,Below.refl _ _⟩
end Go.Proofs.YtabmfpgpkbndeaaGreat
