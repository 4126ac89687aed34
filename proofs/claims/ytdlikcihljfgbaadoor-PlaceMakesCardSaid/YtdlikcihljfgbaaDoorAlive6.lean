/- The statements' fixed fact of place over this program: it answers true, whatever the memory. -/
import Derived.Test.YtdlikcihljfgbaaDoorPlaceAt
namespace Go.Proofs.YtdlikcihljfgbaaDoor
open Go.RowKit

theorem small_any (n : Int) (s : ByteArray) (w : World) (h0 : 0 ≤ n) (h9 : n < 10) (hs : s = (ByteArray.mk #[48, 49, 50, 51, 52, 53, 54, 55, 56, 57, 97, 98, 99, 100, 101, 102, 103, 104, 105, 106, 107, 108, 109, 110, 111, 112, 113, 114, 115, 116, 117, 118, 119, 120, 121, 122]).extract n.toNat (n.toNat + 1)) :
    Calls Tryd.prog 22 #[.int .i64 n] w fun e w' => e = .returned (.string s) ∧ w = w' := by
  obtain ⟨m, rfl⟩ := Int.eq_ofNat_of_zero_le h0
  have HS := hide hs
  clear hs h0
  go_enter Tryd.func22, Tryd.ntmps22
  go_wp2
  go_ret
  exact ⟨by rw [HS.out]; rfl, rfl⟩

theorem itoa_one (n : Int) (s : ByteArray) (w : World) (h0 : 0 ≤ n) (h9 : n < 10) (hs : s = (ByteArray.mk #[48, 49, 50, 51, 52, 53, 54, 55, 56, 57, 97, 98, 99, 100, 101, 102, 103, 104, 105, 106, 107, 108, 109, 110, 111, 112, 113, 114, 115, 116, 117, 118, 119, 120, 121, 122]).extract n.toNat (n.toNat + 1)) :
    Calls Tryd.prog 19 #[.int .i64 n] w fun e w' => e = .returned (.string s) ∧ w = w' := by
  have P1 := hide (fun w => small_any n s w h0 h9 hs)
  clear hs
  have P2 := hide (fun w => show Calls Tryd.prog 21 #[.int .i64 n, .int .i64 10] w fun e w' => e = .returned (.string s) ∧ w = w' by
    go_enter Tryd.func21, Tryd.ntmps21
    go_wp2_with fail
    refine (P1.out _).mono ?_; rintro _ w' ⟨rfl, rfl⟩
    go_wp2
    go_ret
    exact ⟨rfl, rfl⟩)
  have P3 := hide (fun w => show Calls Tryd.prog 20 #[.int .i64 n] w fun e w' => e = .returned (.string s) ∧ w = w' by
    go_enter Tryd.func20, Tryd.ntmps20
    go_wp2_with fail
    refine (P2.out _).mono ?_; rintro _ w' ⟨rfl, rfl⟩
    go_wp2
    go_ret
    exact ⟨rfl, rfl⟩)
  go_enter Tryd.func19, Tryd.ntmps19
  go_wp2_with fail
  refine (P3.out _).mono ?_; rintro _ w' ⟨rfl, rfl⟩
  go_wp2
  go_ret
  exact ⟨rfl, rfl⟩

theorem ok1 : okN 1 := by unfold okN; omega
theorem ok2 : okN 2 := by unfold okN; omega
theorem ok3 : okN 3 := by unfold okN; omega

theorem text_21 (w : World) : Calls Tryd.prog 14 #[.complex .f64 (Fl.fl 2) (Fl.fl 1)] w fun e w' => e = .returned (.string ⟨#[50, 58, 49]⟩) ∧ w = w' := by
  have P1 := hide (fun w => right_yes 2 1 w ok2 ok1)
  have P2 := hide (fun w => line_yes 2 1 w ok2 ok1)
  have P3 := hide (fun w => col_yes 2 1 w ok2 ok1)
  have T2 := hide (fun w => itoa_one 2 ⟨#[50]⟩ w (by omega) (by omega) (by decide))
  have T1 := hide (fun w => itoa_one 1 ⟨#[49]⟩ w (by omega) (by omega) (by decide))
  generalize Fl.fl 2 = x at *
  generalize Fl.fl 1 = y at *
  go_enter Tryd.func14, Tryd.ntmps14
  go_wp2_with fail
  refine (P1.out _).mono ?_; rintro _ w' ⟨rfl, rfl⟩
  go_wp2_with fail
  refine (P2.out _).mono ?_; rintro _ w' ⟨rfl, rfl⟩
  go_wp2_with fail
  refine (T2.out _).mono ?_; rintro _ w' ⟨rfl, rfl⟩
  go_wp2_with fail
  refine (P3.out _).mono ?_; rintro _ w' ⟨rfl, rfl⟩
  go_wp2_with fail
  refine (T1.out _).mono ?_; rintro _ w' ⟨rfl, rfl⟩
  go_wp2
  go_ret
  exact ⟨rfl, rfl⟩

theorem text_none (w : World) : Calls Tryd.prog 14 #[.complex .f64 0 0] w fun e w' => e = .returned (.string ⟨#[45]⟩) ∧ w = w' := by
  have P1 := hide (fun w => right_no 0 0 w (by unfold okN; omega))
  rw [Fl.fl_zero] at P1
  go_enter Tryd.func14, Tryd.ntmps14
  go_wp2_with fail
  refine (P1.out _).mono ?_; rintro _ w' ⟨rfl, rfl⟩
  go_wp2
  go_ret
  exact ⟨rfl, rfl⟩

theorem right_half (w : World) : Calls Tryd.prog 11 #[.complex .f64 4602678819172646912 0] w fun e w' => e = .returned (.bool false) ∧ w = w' := by
  have o1 : (FloatKind.f64.format.order 4607182418800017408 4602678819172646912 == some .lt || FloatKind.f64.format.order 4607182418800017408 4602678819172646912 == some .eq) = false := by decide +kernel
  have P1 := hide (fun w => show Calls Tryd.prog 18 #[.float .f64 4602678819172646912] w fun e w' => e = .returned (.bool false) ∧ w = w' by
    generalize 4602678819172646912 = x at *
    go_enter Tryd.func18, Tryd.ntmps18
    go_wp2
    go_ret
    exact ⟨rfl, rfl⟩)
  go_enter Tryd.func11, Tryd.ntmps11
  go_wp2_with fail
  refine (P1.out _).mono ?_; rintro _ w' ⟨rfl, rfl⟩
  go_wp2
  go_ret
  exact ⟨rfl, rfl⟩

theorem fl_2 : Fl.fl 2 = 4611686018427387904 := by decide +kernel
theorem fl_3 : Fl.fl 3 = 4613937818241073152 := by decide +kernel
theorem eq_same (a : Int) (h : okN a) : (FloatKind.f64.format.order (Fl.fl a) (Fl.fl a) == some .eq) = true := by rw [eq_fl a a h.in h.in]; simp

set_option maxHeartbeats 1000000 in
theorem alive6_any (w : World) : Calls Tryd.prog 6 #[] w fun e w' => e = .returned (.bool true) ∧ Below w.heap.size w w' := by
  have L1 := hide (fun w : World => show Calls Tryd.prog 9 #[.slice (some ⟨w.heap.size, 0, none⟩) 4 4, .int .i64 3] (w.alloc (cellsM [97, 98, 10, 99])) (fun e w' => e = .returned (.complex .f64 (Fl.fl 2) (Fl.fl 1)) ∧ Below w.heap.size w w') by
    obtain ⟨h1, h2⟩ := litM w [97, 98, 10, 99]
    have q := at_in _ 4 _ [97, 98, 10, 99] 3 _ h1 (by unfold K.Bytes; simp) (by simp) (by simp) (by simp)
    exact q.mono (by rintro e w' ⟨he, rfl⟩; exact ⟨he, h2⟩))
  have vl := fun w : World => show (convert 22 22 (.slice (some ⟨w.heap.size, 0, none⟩) 4 4)).run Tryd.prog (w.alloc (.cells #[.int .u8 97, .int .u8 98, .int .u8 10, .int .u8 99] 5)) = .ok (.slice (some ⟨w.heap.size, 0, none⟩) 4 4) (w.alloc (cellsM [97, 98, 10, 99])) from lit_conv w [97, 98, 10, 99] 4 4
  have L2 := hide (fun w => text_21 w)
  have L3 := hide (fun w => line_yes 2 1 w ok2 ok1)
  have L4 := hide (fun w => col_yes 2 1 w ok2 ok1)
  have L5 := hide (fun w => step_on 2 1 99 w ok2 ok1 ok2 rfl)
  have L6 := hide (fun w => of_yes 2 2 w ok2 ok2)
  have L7 := hide (fun w => step_feed 2 1 w ok2 ok1 ok3)
  have L8 := hide (fun w => (before_any 2 1 2 2 w ok2 ok1 ok2 ok2).mono (R' := fun e w' => e = .returned (.bool true) ∧ w = w') (by rw [show befP 2 1 2 2 = true from rfl]; exact fun _ _ h => h))
  have L9 := hide (fun w => (before_any 2 1 2 1 w ok2 ok1 ok2 ok1).mono (R' := fun e w' => e = .returned (.bool false) ∧ w = w') (by rw [show befP 2 1 2 1 = false from rfl]; exact fun _ _ h => h))
  have L10 := hide (fun w => right_yes 2 1 w ok2 ok1)
  have L11 := hide (fun w => right_half w)
  have L12 := hide (fun w => text_none w)
  rw [show (1 : Int) + 1 = 2 from rfl] at L5
  rw [show (2 : Int) + 1 = 3 from rfl] at L7
  have e1 := eq_same 1 ok1
  have e2 := eq_same 2 ok2
  have e3 := eq_same 3 ok3
  have q2 := fl_2
  have q1 := Fl.fl_one
  have q3 := fl_3
  rw [q2] at e2 L1 L2 L3 L4 L5 L6 L7 L8 L9 L10
  rw [q1] at e1 L1 L2 L3 L4 L5 L7 L8 L9 L10
  rw [q3] at e3 L7
  clear q1 q2 q3
  go_enter Tryd.func6, Tryd.ntmps6
  go_wp2_with (simp only [vl])
  refine (L1.out w).mono ?_; rintro _ w1 ⟨rfl, hb1⟩
  have B1 := hide hb1
  clear hb1
  go_wp2_with fail
  refine (L2.out _).mono ?_; rintro _ w' ⟨rfl, rfl⟩
  go_wp2_with fail
  refine (L3.out _).mono ?_; rintro _ w' ⟨rfl, rfl⟩
  go_wp2_with fail
  refine (L4.out _).mono ?_; rintro _ w' ⟨rfl, rfl⟩
  go_wp2_with fail
  refine (L5.out _).mono ?_; rintro _ w' ⟨rfl, rfl⟩
  go_wp2_with fail
  refine (L6.out _).mono ?_; rintro _ w' ⟨rfl, rfl⟩
  go_wp2_with fail
  refine (L7.out _).mono ?_; rintro _ w' ⟨rfl, rfl⟩
  go_wp2_with fail
  refine (L6.out _).mono ?_; rintro _ w' ⟨rfl, rfl⟩
  go_wp2_with fail
  refine (L8.out _).mono ?_; rintro _ w' ⟨rfl, rfl⟩
  go_wp2_with fail
  refine (L9.out _).mono ?_; rintro _ w' ⟨rfl, rfl⟩
  go_wp2_with fail
  refine (L10.out _).mono ?_; rintro _ w' ⟨rfl, rfl⟩
  go_wp2_with fail
  refine (L11.out _).mono ?_; rintro _ w' ⟨rfl, rfl⟩
  go_wp2_with fail
  refine (L12.out _).mono ?_; rintro _ w' ⟨rfl, rfl⟩
  go_wp2
  go_ret
  exact ⟨rfl, B1.out⟩
end Go.Proofs.YtdlikcihljfgbaaDoor
