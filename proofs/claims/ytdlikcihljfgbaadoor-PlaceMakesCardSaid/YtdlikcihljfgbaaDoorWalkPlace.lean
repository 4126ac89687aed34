/- The walks of the statements of place over this program. -/
import Derived.Test.YtdlikcihljfgbaaDoorAlive6
namespace Go.Proofs.YtdlikcihljfgbaaDoor
open Go.RowKit

theorem eq_zero : (FloatKind.f64.format.order 0 0 == some .eq) = true := by decide +kernel

/-- The program and the document make one place of a line and a column. -/
theorem of_pair (l c : Int) : ∃ X Y : Nat, (FloatKind.f64.format.order X X == some .eq) = true ∧ (FloatKind.f64.format.order Y Y == some .eq) = true ∧
    (∀ w, Calls Tryd.prog 7 #[.int .i64 l, .int .i64 c] w fun e w' => e = .returned (.complex .f64 X Y) ∧ w = w') ∧
    (∀ w, Calls Tryd.prog 8 #[.int .i64 l, .int .i64 c] w fun e w' => e = .returned (.complex .f64 X Y) ∧ w = w') := by
  by_cases h : okN l ∧ okN c
  · exact ⟨_, _, eq_same l h.1, eq_same c h.2, fun w => of_yes l c w h.1 h.2, fun w => rof_yes l c w h.1 h.2⟩
  · exact ⟨_, _, eq_zero, eq_zero, fun w => of_no l c w h, fun w => rof_no l c w h⟩

/-- And of a byte of a text. -/
theorem at_pair (A : Option Addr) (c B : Nat) (l : List Int) (i : Int) (hl : K.Bytes l) (hn : l.length ≤ 2000) (hc : l.length ≤ c) : ∃ X Y : Nat, (FloatKind.f64.format.order X X == some .eq) = true ∧ (FloatKind.f64.format.order Y Y == some .eq) = true ∧
    (∀ w, RdB w B A l → Calls Tryd.prog 9 #[.slice A l.length c, .int .i64 i] w fun e w' => e = .returned (.complex .f64 X Y) ∧ w = w') ∧
    (∀ w, RdB w B A l → Calls Tryd.prog 10 #[.slice A l.length c, .int .i64 i] w fun e w' => e = .returned (.complex .f64 X Y) ∧ w = w') := by
  by_cases h : i < 0 ∨ (l.length : Int) < i
  · exact ⟨_, _, eq_zero, eq_zero, fun w _ => at_out A c _ i w h, fun w _ => rat_out A c _ i w h⟩
  · obtain ⟨m, rfl⟩ := Int.eq_ofNat_of_zero_le (show 0 ≤ i by omega)
    have hm : m ≤ l.length := by omega
    have hb := Pl.pos_bd l m hm
    exact ⟨_, _, eq_same _ (by unfold okN; omega), eq_same _ (by unfold okN; omega), fun w hr => at_in A c B l m w hr hl hn hc hm, fun w hr => rat_in A c B l m w hr hn hm⟩

theorem placeMakes_walk (a0 a1 : Int) (A : Option Addr) (c : Nat) (l : List Int) (w : World) (hr : RdB w w.heap.size A l) (hl : K.Bytes l) (hc : l.length ≤ c) :
    Calls Tryd.prog 3 #[.int .i64 a0, .int .i64 a1, .slice A l.length c] w fun e w' => e = .returned (.bool true) ∧ Below w.heap.size w w' := by
  have HA := hide (alive6_any w)
  by_cases h2 : l.length ≤ 2000
  · obtain ⟨X1, Y1, e1, e2, P1, P2⟩ := of_pair a0 a1
    obtain ⟨X2, Y2, e3, e4, P3, P4⟩ := at_pair A c w.heap.size l a0 hl h2 hc
    obtain ⟨X3, Y3, e5, e6, P5, P6⟩ := at_pair A c w.heap.size l a1 hl h2 hc
    have h3 : ¬ (l.length : Int) > 2000 := by omega
    have H1 := hide P1
    have H2 := hide P2
    have H3 := hide P3
    have H4 := hide P4
    have H5 := hide P5
    have H6 := hide P6
    have HR := hide (fun w' (hb : Below w.heap.size w w') => hr.below hb (Nat.le_refl _))
    clear P1 P2 P3 P4 P5 P6 hr hl
    go_enter Tryd.func3, Tryd.ntmps3
    go_wp2_with fail
    refine HA.out.mono ?_; rintro _ w1 ⟨rfl, hb1⟩
    have B1 := hide hb1
    clear hb1
    go_wp2_with fail
    refine (H1.out _).mono ?_; rintro _ w' ⟨rfl, rfl⟩
    go_wp2_with fail
    refine (H2.out _).mono ?_; rintro _ w' ⟨rfl, rfl⟩
    go_wp2_with fail
    refine (H3.out _ (HR.out _ B1.out)).mono ?_; rintro _ w' ⟨rfl, rfl⟩
    go_wp2_with fail
    refine (H4.out _ (HR.out _ B1.out)).mono ?_; rintro _ w' ⟨rfl, rfl⟩
    go_wp2_with fail
    refine (H5.out _ (HR.out _ B1.out)).mono ?_; rintro _ w' ⟨rfl, rfl⟩
    go_wp2_with fail
    refine (H6.out _ (HR.out _ B1.out)).mono ?_; rintro _ w' ⟨rfl, rfl⟩
    go_wp2
    go_ret
    exact ⟨rfl, B1.out⟩
  · have h3 : (l.length : Int) > 2000 := by omega
    clear hr hl
    go_enter Tryd.func3, Tryd.ntmps3
    go_wp2_with fail
    refine HA.out.mono ?_; rintro _ w1 ⟨rfl, hb1⟩
    go_wp2
    go_ret
    exact ⟨rfl, hb1⟩

theorem okp (l : List Int) (k : Nat) (h : k ≤ l.length) (h2 : l.length ≤ 2000) : okN (Pl.pos (l.take k)).1 ∧ okN (Pl.pos (l.take k)).2 := by
  have := Pl.pos_bd l k h
  unfold okN; omega

/-- Of two places of a text that of the byte ahead is before the other one. -/
theorem bef_lt (l : List Int) (x y : Nat) (hx : x ≤ l.length) (hy : y ≤ l.length) : befP (Pl.pos (l.take x)).1 (Pl.pos (l.take x)).2 (Pl.pos (l.take y)).1 (Pl.pos (l.take y)).2 = decide (x < y) ∧
    (decide ((Pl.pos (l.take x)).1 = (Pl.pos (l.take y)).1) && decide ((Pl.pos (l.take x)).2 = (Pl.pos (l.take y)).2)) = decide (x = y) := by
  rcases Nat.lt_trichotomy x y with h | h | h
  · have := Pl.pos_lt l x y h hy
    refine ⟨by rw [this, decide_eq_true h], ?_⟩
    rw [decide_eq_false (show ¬ x = y by omega)]
    unfold befP at this
    simp only [Bool.or_eq_true, Bool.and_eq_true, decide_eq_true_eq, Bool.and_eq_false_iff, decide_eq_false_iff_not] at this ⊢
    omega
  · subst h
    refine ⟨?_, by simp⟩
    rw [decide_eq_false (by omega)]
    unfold befP; simp
  · have := Pl.pos_lt l y x h hx
    rw [decide_eq_false (show ¬ x < y by omega), decide_eq_false (show ¬ x = y by omega)]
    unfold befP at this ⊢
    simp only [Bool.or_eq_true, Bool.and_eq_true, decide_eq_true_eq, Bool.and_eq_false_iff, Bool.or_eq_false_iff, decide_eq_false_iff_not] at this ⊢
    omega
end Go.Proofs.YtdlikcihljfgbaaDoor
