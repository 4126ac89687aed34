/- The walk of the statement of any text that is a name, or a literal, over this program. -/
import Derived.Test.YthhendkimdddoaaAlive7
import Derived.Test.YthhendkimdddoaaLexRef
namespace Go.Proofs.Ythhendkimdddoaa
open Go.RowKit

set_option maxHeartbeats 1000000 in
theorem lexWords_long (s : ByteArray) (w : World) (hm : ML w) (h : (s.size : Int) > 100) : Calls Try.prog 3 #[.string s] w fun e w' => e = .returned (.bool true) ∧ Below w.heap.size w w' := by
  have HA := hide (alive7_any w hm)
  clear hm
  go_enter Try.func3, Try.ntmps3
  go_wp2_with fail
  refine HA.out.mono ?_; rintro _ w1 ⟨rfl, hb⟩
  have HB := hide hb
  clear hb
  go_wp2
  go_ret
  exact ⟨rfl, HB.out⟩

set_option maxHeartbeats 1000000 in
theorem lexWords_short (s : ByteArray) (w : World) (hm : ML w) (h : ¬ (s.size : Int) > 100) (n b : Bool) (hnb : n = true → b = false) (H1 : Hid (∀ w, Calls Try.prog 7 #[.string s] w fun e w' => e = .returned (.bool n) ∧ Below w.heap.size w w')) (H2 : Hid (∀ w, Calls Try.prog 8 #[.string s] w fun e w' => e = .returned (.bool n) ∧ w = w'))
    (H3 : Hid (∀ w, Calls Try.prog 9 #[.string s] w fun e w' => e = .returned (.bool b) ∧ w = w')) (H4 : Hid (∀ w, Calls Try.prog 10 #[.string s] w fun e w' => e = .returned (.bool b) ∧ w = w')) :
    Calls Try.prog 3 #[.string s] w fun e w' => e = .returned (.bool true) ∧ Below w.heap.size w w' := by
  have HA := hide (alive7_any w hm)
  clear hm
  cases n
  · clear hnb
    cases b
    all_goals
      go_enter Try.func3, Try.ntmps3
      go_wp2_with fail
      refine HA.out.mono ?_; rintro _ w1 ⟨rfl, hb⟩
      have HB := hide hb
      clear hb
      go_wp2_with fail
      refine (H1.out _).mono ?_; rintro _ w2 ⟨rfl, hb⟩
      have HB2 := hide (HB.out.trans (hb.mono HB.out.size))
      clear hb
      go_wp2_with fail
      refine (H2.out _).mono ?_; rintro _ w' ⟨rfl, rfl⟩
      go_wp2_with fail
      refine (H3.out _).mono ?_; rintro _ w' ⟨rfl, rfl⟩
      go_wp2_with fail
      refine (H4.out _).mono ?_; rintro _ w' ⟨rfl, rfl⟩
      go_wp2_with fail
      refine (H1.out _).mono ?_; rintro _ w3 ⟨rfl, hb⟩
      have HB3 := hide (HB2.out.trans (hb.mono HB2.out.size))
      clear hb
      go_wp2
      go_ret
      exact ⟨rfl, HB3.out⟩
  · obtain rfl := hnb rfl
    clear hnb
    go_enter Try.func3, Try.ntmps3
    go_wp2_with fail
    refine HA.out.mono ?_; rintro _ w1 ⟨rfl, hb⟩
    have HB := hide hb
    clear hb
    go_wp2_with fail
    refine (H1.out _).mono ?_; rintro _ w2 ⟨rfl, hb⟩
    have HB2 := hide (HB.out.trans (hb.mono HB.out.size))
    clear hb
    go_wp2_with fail
    refine (H2.out _).mono ?_; rintro _ w' ⟨rfl, rfl⟩
    go_wp2_with fail
    refine (H3.out _).mono ?_; rintro _ w' ⟨rfl, rfl⟩
    go_wp2_with fail
    refine (H4.out _).mono ?_; rintro _ w' ⟨rfl, rfl⟩
    go_wp2_with fail
    refine (H1.out _).mono ?_; rintro _ w3 ⟨rfl, hb⟩
    have HB3 := hide (HB2.out.trans (hb.mono HB2.out.size))
    clear hb
    go_wp2_with fail
    refine (H3.out _).mono ?_; rintro _ w' ⟨rfl, rfl⟩
    go_wp2
    go_ret
    exact ⟨rfl, HB3.out⟩

theorem lexWords_walk (s : ByteArray) (w : World) (hm : ML w) : Calls Try.prog 3 #[.string s] w fun e w' => e = .returned (.bool true) ∧ Below w.heap.size w w' := by
  by_cases h : (s.size : Int) > 100
  · exact lexWords_long s w hm h
  · obtain ⟨l, hl, rfl⟩ := K.of s
    have hn : l.length ≤ 100 := by rw [K.str_size] at h; omega
    exact lexWords_short _ w hm h (T.isName l) (T.isLit l) (T.name_lit l) (hide (name_any l hl)) (hide (rname_any l hl)) (hide (lit_any l hl (by omega))) (hide (rlit_any l hl))
end Go.Proofs.Ythhendkimdddoaa
