/- The walk of the statement of sources that stand in their text: texts that are too long, or wrong; over this program. -/
import Derived.Test.YtgmcpkecppfkgaaAlive8
import Derived.Test.YtgmcpkecppfkgaaRef7T
import Derived.Test.YtgmcpkecppfkgaaRef6
namespace Go.Proofs.Ytgmcpkecppfkgaa
set_option maxRecDepth 100000
open Go.RowKit

theorem yacc_long (A : Option Addr) (c n : Nat) (w : World) (hm : ML w) (h : (n : Int) > 2000) :
    Calls Try.prog 3 #[.slice A n c] w fun e w' => e = .returned (.bool true) ∧ Below w.heap.size w w' := by
  have HA := hide (alive8_any w hm)
  clear hm
  go_enter Try.func3, Try.ntmps3
  go_wp2_with fail
  refine HA.out.mono ?_; rintro _ w1 ⟨rfl, hb⟩
  have HB := hide hb
  clear hb
  go_wp2
  go_ret
  exact ⟨rfl, HB.out⟩

/-- A text that is wrong: nothing is in its source. -/
theorem yacc_wrong (A : Option Addr) (c n : Nat) (w : World) (hm : ML w) (hn : n ≤ 2000) (d : Int) (hd : d ≠ 0) (X Y : Nat)
    (hp : ∀ w1 : World, Below w.heap.size w w1 → Calls Try.prog 5 #[.slice A n c] w1 fun e w' => e = .returned (.tuple #[.agg #[.slice none 0 0, .slice none 0 0], .complex .f64 X Y, .int .i64 d]) ∧ Below w1.heap.size w1 w') :
    Calls Try.prog 3 #[.slice A n c] w fun e w' => e = .returned (.bool true) ∧ Below w.heap.size w w' := by
  have HA := hide (alive8_any w hm)
  have HP := hide hp
  have h4 : ¬ (n : Int) > 2000 := by omega
  have hd0 : (d == 0) = false := by simpa using hd
  clear hm hp hd
  go_enter Try.func3, Try.ntmps3
  go_wp2_with fail
  refine HA.out.mono ?_; rintro _ w1 ⟨rfl, hb⟩
  have HB := hide hb
  clear hb
  go_wp2_with fail
  refine (HP.out _ HB.out).mono ?_; rintro _ w2 ⟨rfl, hb2⟩
  have HB2 := hide (HB.out.trans (hb2.mono HB.out.size))
  have HBA := hide (fun o => HB2.out.alloc HB2.out.size o)
  clear hb2
  go_wp2
  go_ret
  exact ⟨rfl, HBA.out _⟩
end Go.Proofs.Ytgmcpkecppfkgaa
