/- Contracts of place's functions and of the document's own over this program: isPart, Right, orNone, Of, Line, Col, Step, Before. -/
import Derived.Test.YtoehbkgdodogkaaGreatWordsB
import Derived.Test.YtoehbkgdodogkaaGreatFloats
namespace Go.Proofs.YtoehbkgdodogkaaGreat
set_option maxRecDepth 100000
open Go.RowKit

/-- A place: its line and its column; no place is 0, 0. -/
def pl (l c : Int) : Value := .complex .f64 (Fl.fl l) (Fl.fl c)
/-- May a number be a line, or a column? -/
def okN (n : Int) : Prop := 1 ≤ n ∧ n ≤ 1073741824

theorem okN.nat {n : Int} (h : okN n) : ∃ m : Nat, n = m ∧ 1 ≤ m ∧ m ≤ 1073741824 := by
  unfold okN at h
  exact ⟨n.toNat, by omega, by omega, by omega⟩

theorem isPart_yes (n : Int) (w : World) (h : okN n) :
    Calls Tryz.prog 111 #[.float .f64 (Fl.fl n)] w fun e w' => e = .returned (.bool true) ∧ w = w' := by
  obtain ⟨m, rfl, h1, h2⟩ := h.nat
  have o1 : (FloatKind.f64.format.order 4607182418800017408 (Fl.fl m) == some .lt || FloatKind.f64.format.order 4607182418800017408 (Fl.fl m) == some .eq) = true := by
    rw [← Fl.fl_one]
    have e := Fl.order_fl 1 m (by decide) (by omega)
    rw [show Fl.fl 1 = Fl.fl ((1 : Nat) : Int) from rfl, e]
    by_cases e1 : m = 1
    · subst e1; rfl
    · rw [Nat.compare_eq_lt.2 (by omega)]; rfl
  have o2 : (FloatKind.f64.format.order (Fl.fl m) 4742290407621132288 == some .lt || FloatKind.f64.format.order (Fl.fl m) 4742290407621132288 == some .eq) = true := by
    rw [← Fl.fl_most]
    have e := Fl.order_fl m 1073741824 (by omega) (by decide)
    rw [show Fl.fl 1073741824 = Fl.fl ((1073741824 : Nat) : Int) from rfl, e]
    by_cases e1 : m = 1073741824
    · subst e1; rfl
    · rw [Nat.compare_eq_lt.2 (by omega)]; rfl
  have o3 : (FloatKind.f64.format.order (Fl.fl m) (Fl.fl m) == some .eq) = true := by
    rw [Fl.order_fl m m (by omega) (by omega), Nat.compare_eq_eq.2 rfl]; rfl
  have C1 : ∀ w, (convert 109 3 (.float .f64 (Fl.fl m))).run Tryz.prog w = .ok (.int .i64 m) w := fun w => run_convert_float_int w _ _ .f64 .i64 _ _ (by rw [Tryz.underlying109]; rfl) Tryz.underlying3 (Fl.int_fl m (by omega))
  have C2 : ∀ w, (convert 3 109 (.int .i64 m)).run Tryz.prog w = .ok (.float .f64 (Fl.fl m)) w := fun w => run_convert_int_float w _ _ .i64 .f64 _ (by rw [Tryz.underlying3]; rfl) Tryz.underlying109
  generalize Fl.fl m = x at *
  go_enter Tryz.func111, Tryz.ntmps111
  go_wp2_with (first | simp only [C1] | simp only [C2])
  go_ret
  exact ⟨rfl, rfl⟩

theorem isPart_no (n : Int) (w : World) (h : ¬ okN n) :
    Calls Tryz.prog 111 #[.float .f64 (Fl.fl n)] w fun e w' => e = .returned (.bool false) ∧ w = w' := by
  by_cases h1 : n < 1
  · have o1 : (FloatKind.f64.format.order 4607182418800017408 (Fl.fl n) == some .lt || FloatKind.f64.format.order 4607182418800017408 (Fl.fl n) == some .eq) = false := by
      rw [← Fl.fl_one, Fl.order_low n h1]; rfl
    clear h
    generalize Fl.fl n = x at *
    go_enter Tryz.func111, Tryz.ntmps111
    go_wp2
    go_ret
    exact ⟨rfl, rfl⟩
  · have h2 : 1073741824 < n := by unfold okN at h; omega
    have q := Fl.order_high n h2
    have o1 : (FloatKind.f64.format.order 4607182418800017408 (Fl.fl n) == some .lt || FloatKind.f64.format.order 4607182418800017408 (Fl.fl n) == some .eq) = true := by
      rw [← Fl.fl_one, q.1]; rfl
    have o2 : (FloatKind.f64.format.order (Fl.fl n) 4742290407621132288 == some .lt || FloatKind.f64.format.order (Fl.fl n) 4742290407621132288 == some .eq) = false := by
      rw [← Fl.fl_most, q.2]; rfl
    clear h q
    generalize Fl.fl n = x at *
    go_enter Tryz.func111, Tryz.ntmps111
    go_wp2
    go_ret
    exact ⟨rfl, rfl⟩

theorem right_yes (l c : Int) (w : World) (hl : okN l) (hc : okN c) :
    Calls Tryz.prog 93 #[.complex .f64 (Fl.fl l) (Fl.fl c)] w fun e w' => e = .returned (.bool true) ∧ w = w' := by
  have P1 := fun w => isPart_yes l w hl
  have P2 := fun w => isPart_yes c w hc
  generalize Fl.fl l = x at *
  generalize Fl.fl c = y at *
  go_enter Tryz.func93, Tryz.ntmps93
  go_wp2_with fail
  refine (P1 _).mono ?_; rintro _ w' ⟨rfl, rfl⟩
  go_wp2_with fail
  refine (P2 _).mono ?_; rintro _ w' ⟨rfl, rfl⟩
  go_wp2
  go_ret
  exact ⟨rfl, rfl⟩

theorem right_no (l c : Int) (w : World) (h : ¬ (okN l ∧ okN c)) :
    Calls Tryz.prog 93 #[.complex .f64 (Fl.fl l) (Fl.fl c)] w fun e w' => e = .returned (.bool false) ∧ w = w' := by
  by_cases hl : okN l
  · have P1 := fun w => isPart_yes l w hl
    have P2 := fun w => isPart_no c w (fun hc => h ⟨hl, hc⟩)
    generalize Fl.fl l = x at *
    generalize Fl.fl c = y at *
    go_enter Tryz.func93, Tryz.ntmps93
    go_wp2_with fail
    refine (P1 _).mono ?_; rintro _ w' ⟨rfl, rfl⟩
    go_wp2_with fail
    refine (P2 _).mono ?_; rintro _ w' ⟨rfl, rfl⟩
    go_wp2
    go_ret
    exact ⟨rfl, rfl⟩
  · have P1 := fun w => isPart_no l w hl
    generalize Fl.fl l = x at *
    generalize Fl.fl c = y at *
    go_enter Tryz.func93, Tryz.ntmps93
    go_wp2_with fail
    refine (P1 _).mono ?_; rintro _ w' ⟨rfl, rfl⟩
    go_wp2
    go_ret
    exact ⟨rfl, rfl⟩

theorem orNone_yes (l c : Int) (w : World) (hl : okN l) (hc : okN c) :
    Calls Tryz.prog 72 #[.complex .f64 (Fl.fl l) (Fl.fl c)] w fun e w' => e = .returned (.complex .f64 (Fl.fl l) (Fl.fl c)) ∧ w = w' := by
  have P1 := fun w => right_yes l c w hl hc
  generalize Fl.fl l = x at *
  generalize Fl.fl c = y at *
  go_enter Tryz.func72, Tryz.ntmps72
  go_wp2_with fail
  refine (P1 _).mono ?_; rintro _ w' ⟨rfl, rfl⟩
  go_wp2
  go_ret
  exact ⟨rfl, rfl⟩
theorem orNone_no (l c : Int) (w : World) (h : ¬ (okN l ∧ okN c)) :
    Calls Tryz.prog 72 #[.complex .f64 (Fl.fl l) (Fl.fl c)] w fun e w' => e = .returned (.complex .f64 0 0) ∧ w = w' := by
  have P1 := fun w => right_no l c w h
  generalize Fl.fl l = x at *
  generalize Fl.fl c = y at *
  go_enter Tryz.func72, Tryz.ntmps72
  go_wp2_with fail
  refine (P1 _).mono ?_; rintro _ w' ⟨rfl, rfl⟩
  go_wp2
  go_ret
  exact ⟨rfl, rfl⟩

theorem of_yes (l c : Int) (w : World) (hl : okN l) (hc : okN c) :
    Calls Tryz.prog 56 #[.int .i64 l, .int .i64 c] w fun e w' => e = .returned (.complex .f64 (Fl.fl l) (Fl.fl c)) ∧ w = w' := by
  have P1 := fun w => orNone_yes l c w hl hc
  have C2 : ∀ n w, (convert 3 109 (.int .i64 n)).run Tryz.prog w = .ok (.float .f64 (Fl.fl n)) w := fun n w => run_convert_int_float w _ _ .i64 .f64 _ (by rw [Tryz.underlying3]; rfl) Tryz.underlying109
  go_enter Tryz.func56, Tryz.ntmps56
  go_wp2_with (simp only [C2])
  refine (P1 _).mono ?_; rintro _ w' ⟨rfl, rfl⟩
  go_wp2
  go_ret
  exact ⟨rfl, rfl⟩
theorem of_no (l c : Int) (w : World) (h : ¬ (okN l ∧ okN c)) :
    Calls Tryz.prog 56 #[.int .i64 l, .int .i64 c] w fun e w' => e = .returned (.complex .f64 0 0) ∧ w = w' := by
  have P1 := fun w => orNone_no l c w h
  have C2 : ∀ n w, (convert 3 109 (.int .i64 n)).run Tryz.prog w = .ok (.float .f64 (Fl.fl n)) w := fun n w => run_convert_int_float w _ _ .i64 .f64 _ (by rw [Tryz.underlying3]; rfl) Tryz.underlying109
  go_enter Tryz.func56, Tryz.ntmps56
  go_wp2_with (simp only [C2])
  refine (P1 _).mono ?_; rintro _ w' ⟨rfl, rfl⟩
  go_wp2
  go_ret
  exact ⟨rfl, rfl⟩

theorem add_one (l : Int) (h : okN l) : floatBits .add .f64 (Fl.fl l) 4607182418800017408 = some (Fl.fl (l + 1)) := by
  obtain ⟨m, rfl, h1, h2⟩ := h.nat
  have := Fl.add_fl m 1 (by omega)
  rw [← Fl.fl_one]
  exact this
theorem add_none (l : Int) (h : okN l) : floatBits .add .f64 (Fl.fl l) 0 = some (Fl.fl l) := by
  obtain ⟨m, rfl, h1, h2⟩ := h.nat
  have := Fl.add_fl m 0 (by omega)
  rw [show Fl.fl ((0 : Nat) : Int) = 0 from Fl.fl_zero] at this
  exact this

/-- Behind a line feed the next line begins. -/
theorem step_feed (l c : Int) (w : World) (hl : okN l) (hc : okN c) (h : okN (l + 1)) :
    Calls Tryz.prog 73 #[.complex .f64 (Fl.fl l) (Fl.fl c), .int .u8 10] w fun e w' => e = .returned (.complex .f64 (Fl.fl (l + 1)) (Fl.fl 1)) ∧ w = w' := by
  have P1 := fun w => right_yes l c w hl hc
  have P2 := fun w => orNone_yes (l + 1) 1 w h (by unfold okN; omega)
  have S1 : ∀ t w, (binOp .add t (.float .f64 (Fl.fl l)) (.float .f64 4607182418800017408)).run Tryz.prog w = .ok (.float .f64 (Fl.fl (l + 1))) w := fun t w => run_float_arith w .add t .f64 _ _ _ (add_one l hl)
  rw [Fl.fl_one] at P2 ⊢
  generalize Fl.fl (l + 1) = z at *
  generalize Fl.fl l = x at *
  generalize Fl.fl c = y at *
  go_enter Tryz.func73, Tryz.ntmps73
  go_wp2_with fail
  refine (P1 _).mono ?_; rintro _ w' ⟨rfl, rfl⟩
  go_wp2_with fail
  refine (P2 _).mono ?_; rintro _ w' ⟨rfl, rfl⟩
  go_wp2
  go_ret
  exact ⟨rfl, rfl⟩

/-- Behind any other byte the next column follows. -/
theorem step_on (l c k : Int) (w : World) (hl : okN l) (hc : okN c) (h : okN (c + 1)) (hk : (k == 10) = false) :
    Calls Tryz.prog 73 #[.complex .f64 (Fl.fl l) (Fl.fl c), .int .u8 k] w fun e w' => e = .returned (.complex .f64 (Fl.fl l) (Fl.fl (c + 1))) ∧ w = w' := by
  have P1 := fun w => right_yes l c w hl hc
  have P2 := fun w => orNone_yes l (c + 1) w hl h
  have S1 : ∀ t w, (binOp .add t (.complex .f64 (Fl.fl l) (Fl.fl c)) (.complex .f64 0 4607182418800017408)).run Tryz.prog w = .ok (.complex .f64 (Fl.fl l) (Fl.fl (c + 1))) w := fun t w => run_complex_sum w .add (Or.inl rfl) t .f64 _ _ _ _ _ _ (by unfold cSumBits; rw [add_none l hl, add_one c hc]; rfl)
  generalize Fl.fl (c + 1) = z at *
  generalize Fl.fl l = x at *
  generalize Fl.fl c = y at *
  go_enter Tryz.func73, Tryz.ntmps73
  go_wp2_with fail
  refine (P1 _).mono ?_; rintro _ w' ⟨rfl, rfl⟩
  go_wp2_with fail
  refine (P2 _).mono ?_; rintro _ w' ⟨rfl, rfl⟩
  go_wp2
  go_ret
  exact ⟨rfl, rfl⟩

theorem eq_fl (a b : Int) (ha : 0 ≤ a ∧ a ≤ 1073741824) (hb : 0 ≤ b ∧ b ≤ 1073741824) : (FloatKind.f64.format.order (Fl.fl a) (Fl.fl b) == some .eq) = decide (a = b) := by
  obtain ⟨m, rfl⟩ := Int.eq_ofNat_of_zero_le ha.1
  obtain ⟨n, rfl⟩ := Int.eq_ofNat_of_zero_le hb.1
  rw [Fl.order_fl m n (by omega) (by omega)]
  by_cases h : m = n
  · subst h; rw [Nat.compare_eq_eq.2 rfl]; simp
  · have h' : ¬ ((m : Int) = n) := by omega
    rw [decide_eq_false h']
    rcases Nat.lt_or_gt_of_ne h with q | q
    · rw [Nat.compare_eq_lt.2 q]; rfl
    · rw [Nat.compare_eq_gt.2 q]; rfl
theorem lt_fl (a b : Int) (ha : 0 ≤ a ∧ a ≤ 1073741824) (hb : 0 ≤ b ∧ b ≤ 1073741824) : (FloatKind.f64.format.order (Fl.fl a) (Fl.fl b) == some .lt) = decide (a < b) := by
  obtain ⟨m, rfl⟩ := Int.eq_ofNat_of_zero_le ha.1
  obtain ⟨n, rfl⟩ := Int.eq_ofNat_of_zero_le hb.1
  rw [Fl.order_fl m n (by omega) (by omega)]
  rcases Nat.lt_trichotomy m n with h | h | h
  · rw [Nat.compare_eq_lt.2 h, decide_eq_true (by omega)]; rfl
  · subst h; rw [Nat.compare_eq_eq.2 rfl, decide_eq_false (by omega)]; rfl
  · rw [Nat.compare_eq_gt.2 h, decide_eq_false (by omega)]; rfl
theorem okN.in {n : Int} (h : okN n) : 0 ≤ n ∧ n ≤ 1073741824 := by unfold okN at h; omega

/-- Is one place before another one? -/
def befP (l c m d : Int) : Bool := decide (l < m) || (decide (l = m) && decide (c < d))

end Go.Proofs.YtoehbkgdodogkaaGreat
