/- Contracts of the document's own Right, Line, Col, Before of places, over this program. -/
import Derived.Test.YtgmcpkecppfkgaaPlaceAt
namespace Go.Proofs.Ytgmcpkecppfkgaa
set_option maxRecDepth 100000
open Go.RowKit

theorem whole_yes (n : Int) (w : World) (h : okN n) :
    Calls Try.prog 40 #[.float .f64 (Fl.fl n)] w fun e w' => e = .returned (.bool true) ∧ w = w' := by
  obtain ⟨m, rfl, h1, h2⟩ := h.nat
  have o1 : (FloatKind.f64.format.order 4607182418800017408 (Fl.fl m) == some .lt || FloatKind.f64.format.order 4607182418800017408 (Fl.fl m) == some .eq) = true := by
    rw [← Fl.fl_one]
    have e := Fl.order_fl 1 m (by decide) (by omega)
    rw [show Fl.fl 1 = Fl.fl ((1 : Nat) : Int) from rfl, e]
    by_cases e1 : m = 1
    · subst e1; rfl
    · rw [Nat.compare_eq_lt.2 (by omega)]; rfl
  have o1' : (FloatKind.f64.format.order (Fl.fl m) 4607182418800017408 == some .gt || FloatKind.f64.format.order (Fl.fl m) 4607182418800017408 == some .eq) = true := by
    rw [← Fl.fl_one]
    have e := Fl.order_fl m 1 (by omega) (by decide)
    rw [show Fl.fl 1 = Fl.fl ((1 : Nat) : Int) from rfl, e]
    by_cases e1 : m = 1
    · subst e1; rfl
    · rw [Nat.compare_eq_gt.2 (by omega)]; rfl
  have o2 : (FloatKind.f64.format.order (Fl.fl m) 4742290407621132288 == some .lt || FloatKind.f64.format.order (Fl.fl m) 4742290407621132288 == some .eq) = true := by
    rw [← Fl.fl_most]
    have e := Fl.order_fl m 1073741824 (by omega) (by decide)
    rw [show Fl.fl 1073741824 = Fl.fl ((1073741824 : Nat) : Int) from rfl, e]
    by_cases e1 : m = 1073741824
    · subst e1; rfl
    · rw [Nat.compare_eq_lt.2 (by omega)]; rfl
  have o3 : (FloatKind.f64.format.order (Fl.fl m) (Fl.fl m) == some .eq) = true := by
    rw [Fl.order_fl m m (by omega) (by omega), Nat.compare_eq_eq.2 rfl]; rfl
  have C1 : ∀ w, (convert 80 3 (.float .f64 (Fl.fl m))).run Try.prog w = .ok (.int .i64 m) w := fun w => run_convert_float_int w _ _ .f64 .i64 _ _ (by rw [Try.underlying80]; rfl) Try.underlying3 (Fl.int_fl m (by omega))
  have C2 : ∀ w, (convert 3 80 (.int .i64 m)).run Try.prog w = .ok (.float .f64 (Fl.fl m)) w := fun w => run_convert_int_float w _ _ .i64 .f64 _ (by rw [Try.underlying3]; rfl) Try.underlying80
  generalize Fl.fl m = x at *
  go_enter Try.func40, Try.ntmps40
  go_wp2_with (first | simp only [C1] | simp only [C2])
  go_ret
  exact ⟨rfl, rfl⟩

theorem rright_yes (l c : Int) (w : World) (hl : okN l) (hc : okN c) :
    Calls Try.prog 15 #[.complex .f64 (Fl.fl l) (Fl.fl c)] w fun e w' => e = .returned (.bool true) ∧ w = w' := by
  have P1 := hide (fun w => whole_yes l w hl)
  have P2 := hide (fun w => whole_yes c w hc)
  generalize Fl.fl l = x at *
  generalize Fl.fl c = y at *
  go_enter Try.func15, Try.ntmps15
  go_wp2_with fail
  refine (P1.out _).mono ?_; rintro _ w' ⟨rfl, rfl⟩
  go_wp2_with fail
  refine (P2.out _).mono ?_; rintro _ w' ⟨rfl, rfl⟩
  go_wp2
  go_ret
  exact ⟨rfl, rfl⟩
theorem rline_yes (l c : Int) (w : World) (hl : okN l) (hc : okN c) :
    Calls Try.prog 16 #[.complex .f64 (Fl.fl l) (Fl.fl c)] w fun e w' => e = .returned (.int .i64 l) ∧ w = w' := by
  have P1 := hide (fun w => rright_yes l c w hl hc)
  obtain ⟨m, rfl, h1, h2⟩ := hl.nat
  have C1 : ∀ w, (convert 80 3 (.float .f64 (Fl.fl m))).run Try.prog w = .ok (.int .i64 m) w := fun w => run_convert_float_int w _ _ .f64 .i64 _ _ (by rw [Try.underlying80]; rfl) Try.underlying3 (Fl.int_fl m (by omega))
  generalize Fl.fl m = x at *
  generalize Fl.fl c = y at *
  go_enter Try.func16, Try.ntmps16
  go_wp2_with fail
  refine (P1.out _).mono ?_; rintro _ w' ⟨rfl, rfl⟩
  go_wp2
  go_ret
  exact ⟨rfl, rfl⟩
theorem rcol_yes (l c : Int) (w : World) (hl : okN l) (hc : okN c) :
    Calls Try.prog 17 #[.complex .f64 (Fl.fl l) (Fl.fl c)] w fun e w' => e = .returned (.int .i64 c) ∧ w = w' := by
  have P1 := hide (fun w => rright_yes l c w hl hc)
  obtain ⟨m, rfl, h1, h2⟩ := hc.nat
  have C1 : ∀ w, (convert 80 3 (.float .f64 (Fl.fl m))).run Try.prog w = .ok (.int .i64 m) w := fun w => run_convert_float_int w _ _ .f64 .i64 _ _ (by rw [Try.underlying80]; rfl) Try.underlying3 (Fl.int_fl m (by omega))
  generalize Fl.fl m = x at *
  generalize Fl.fl l = y at *
  go_enter Try.func17, Try.ntmps17
  go_wp2_with fail
  refine (P1.out _).mono ?_; rintro _ w' ⟨rfl, rfl⟩
  go_wp2
  go_ret
  exact ⟨rfl, rfl⟩

/-- One place is before another one. -/
theorem rbefore_yes (l c m d : Int) (w : World) (hl : okN l) (hc : okN c) (hm : okN m) (hd : okN d) (h : befP l c m d = true) :
    Calls Try.prog 8 #[.complex .f64 (Fl.fl l) (Fl.fl c), .complex .f64 (Fl.fl m) (Fl.fl d)] w fun e w' => e = .returned (.bool true) ∧ w = w' := by
  have R1 := hide (fun w => rright_yes l c w hl hc)
  have R2 := hide (fun w => rright_yes m d w hm hd)
  have L1 := hide (fun w => rline_yes l c w hl hc)
  have L2 := hide (fun w => rline_yes m d w hm hd)
  have C1 := hide (fun w => rcol_yes l c w hl hc)
  have C2 := hide (fun w => rcol_yes m d w hm hd)
  clear hl hc hm hd
  unfold befP at h
  generalize Fl.fl l = x at *
  generalize Fl.fl c = y at *
  generalize Fl.fl m = z at *
  generalize Fl.fl d = v at *
  by_cases h1 : l < m
  · clear h
    go_enter Try.func8, Try.ntmps8
    go_wp2_with fail
    refine (R1.out _).mono ?_; rintro _ w' ⟨rfl, rfl⟩
    go_wp2_with fail
    refine (R2.out _).mono ?_; rintro _ w' ⟨rfl, rfl⟩
    go_wp2_with fail
    refine (L1.out _).mono ?_; rintro _ w' ⟨rfl, rfl⟩
    go_wp2_with fail
    refine (L2.out _).mono ?_; rintro _ w' ⟨rfl, rfl⟩
    go_wp2
    go_ret
    exact ⟨rfl, rfl⟩
  · have h2 : l = m ∧ c < d := by simp [h1] at h; exact h
    obtain ⟨h2, h3⟩ := h2
    have h2' : (l == m) = true := by simpa using h2
    clear h h2
    go_enter Try.func8, Try.ntmps8
    go_wp2_with fail
    refine (R1.out _).mono ?_; rintro _ w' ⟨rfl, rfl⟩
    go_wp2_with fail
    refine (R2.out _).mono ?_; rintro _ w' ⟨rfl, rfl⟩
    go_wp2_with fail
    refine (L1.out _).mono ?_; rintro _ w' ⟨rfl, rfl⟩
    go_wp2_with fail
    refine (L2.out _).mono ?_; rintro _ w' ⟨rfl, rfl⟩
    go_wp2_with fail
    refine (L1.out _).mono ?_; rintro _ w' ⟨rfl, rfl⟩
    go_wp2_with fail
    refine (L2.out _).mono ?_; rintro _ w' ⟨rfl, rfl⟩
    go_wp2_with fail
    refine (C1.out _).mono ?_; rintro _ w' ⟨rfl, rfl⟩
    go_wp2_with fail
    refine (C2.out _).mono ?_; rintro _ w' ⟨rfl, rfl⟩
    go_wp2
    go_ret
    exact ⟨rfl, rfl⟩
end Go.Proofs.Ytgmcpkecppfkgaa
