/- The walk of the statement of places in order over this program. -/
import Derived.Test.YtdlikcihljfgbaaDoorWalkPlace
namespace Go.Proofs.YtdlikcihljfgbaaDoor
open Go.RowKit

/-- The program makes one place, one that may be or none. -/
theorem of_any (l c : Int) : ∃ X Y : Nat, (∀ w, Calls Tryd.prog 7 #[.int .i64 l, .int .i64 c] w fun e w' => e = .returned (.complex .f64 X Y) ∧ w = w') ∧
    ((∀ w, Calls Tryd.prog 11 #[.complex .f64 X Y] w fun e w' => e = .returned (.bool false) ∧ w = w') ∨ (okN l ∧ okN c ∧ X = Fl.fl l ∧ Y = Fl.fl c)) := by
  by_cases h : okN l ∧ okN c
  · exact ⟨_, _, fun w => of_yes l c w h.1 h.2, Or.inr ⟨h.1, h.2, rfl, rfl⟩⟩
  · refine ⟨0, 0, fun w => of_no l c w h, Or.inl fun w => ?_⟩
    have := right_no 0 0 w (by unfold okN; omega)
    rwa [Fl.fl_zero] at this

theorem order_cells (a b c d e f : Int) (w wk : World) (h : Below (((w.alloc (.cells #[.int .i64 a, .int .i64 b] 33)).alloc (.cells #[.int .i64 c, .int .i64 d] 33)).alloc (.cells #[.int .i64 e, .int .i64 f] 33)).heap.size (((w.alloc (.cells #[.int .i64 a, .int .i64 b] 33)).alloc (.cells #[.int .i64 c, .int .i64 d] 33)).alloc (.cells #[.int .i64 e, .int .i64 f] 33)) wk) :
    wk.cell? ⟨w.heap.size, 0, none⟩ = some (.int .i64 a) ∧ wk.cell? ⟨w.heap.size, 1, none⟩ = some (.int .i64 b) ∧ wk.cell? ⟨w.heap.size + 1, 0, none⟩ = some (.int .i64 c) ∧ wk.cell? ⟨w.heap.size + 1, 1, none⟩ = some (.int .i64 d) ∧ wk.cell? ⟨w.heap.size + 1 + 1, 0, none⟩ = some (.int .i64 e) ∧ wk.cell? ⟨w.heap.size + 1 + 1, 1, none⟩ = some (.int .i64 f) := by
  have s1 : (w.alloc (.cells #[.int .i64 a, .int .i64 b] 33)).heap.size = w.heap.size + 1 := by simp
  have s2 : ((w.alloc (.cells #[.int .i64 a, .int .i64 b] 33)).alloc (.cells #[.int .i64 c, .int .i64 d] 33)).heap.size = w.heap.size + 1 + 1 := by simp
  have q : ∀ o, wk.cell? ⟨w.heap.size, o, none⟩ = (w.alloc (.cells #[.int .i64 a, .int .i64 b] 33)).cell? ⟨w.heap.size, o, none⟩ := fun o => by
    rw [h.cell (p := ⟨w.heap.size, o, none⟩) (by simp; omega), World.cell?_alloc_lt _ _ ⟨w.heap.size, o, none⟩ (by simp; omega), World.cell?_alloc_lt _ _ ⟨w.heap.size, o, none⟩ (by simp)]
  have q2 : ∀ o, wk.cell? ⟨w.heap.size + 1, o, none⟩ = ((w.alloc (.cells #[.int .i64 a, .int .i64 b] 33)).alloc (.cells #[.int .i64 c, .int .i64 d] 33)).cell? ⟨w.heap.size + 1, o, none⟩ := fun o => by
    rw [h.cell (p := ⟨w.heap.size + 1, o, none⟩) (by simp), World.cell?_alloc_lt _ _ ⟨w.heap.size + 1, o, none⟩ (by simp)]
  have q3 : ∀ o, wk.cell? ⟨w.heap.size + 1 + 1, o, none⟩ = (((w.alloc (.cells #[.int .i64 a, .int .i64 b] 33)).alloc (.cells #[.int .i64 c, .int .i64 d] 33)).alloc (.cells #[.int .i64 e, .int .i64 f] 33)).cell? ⟨w.heap.size + 1 + 1, o, none⟩ := fun o => by
    rw [h.cell (p := ⟨w.heap.size + 1 + 1, o, none⟩) (by simp)]
  refine ⟨(q 0).trans (World.cell?_alloc_new w _ _ 0), (q 1).trans (World.cell?_alloc_new w _ _ 1), (q2 0).trans ?_, (q2 1).trans ?_, (q3 0).trans ?_, (q3 1).trans ?_⟩
  · rw [← s1]; exact World.cell?_alloc_new _ _ _ 0
  · rw [← s1]; exact World.cell?_alloc_new _ _ _ 1
  · rw [← s2]; exact World.cell?_alloc_new _ _ _ 0
  · rw [← s2]; exact World.cell?_alloc_new _ _ _ 1

set_option maxHeartbeats 1000000 in
theorem order_no1 (a b c d e f : Int) (w : World) (X1 Y1 X2 Y2 X3 Y3 : Nat) (H1 : Hid (∀ w, Calls Tryd.prog 7 #[.int .i64 a, .int .i64 b] w fun e w' => e = .returned (.complex .f64 X1 Y1) ∧ w = w')) (H2 : Hid (∀ w, Calls Tryd.prog 7 #[.int .i64 c, .int .i64 d] w fun e w' => e = .returned (.complex .f64 X2 Y2) ∧ w = w')) (H3 : Hid (∀ w, Calls Tryd.prog 7 #[.int .i64 e, .int .i64 f] w fun e w' => e = .returned (.complex .f64 X3 Y3) ∧ w = w')) (R1 : Hid (∀ w, Calls Tryd.prog 11 #[.complex .f64 X1 Y1] w fun e w' => e = .returned (.bool false) ∧ w = w')) :
    Calls Tryd.prog 5 #[.agg #[.int .i64 a, .int .i64 b], .agg #[.int .i64 c, .int .i64 d], .agg #[.int .i64 e, .int .i64 f]] w fun e w' => e = .returned (.bool true) ∧ Below w.heap.size w w' := by
  have HA := hide (fun w => alive6_any w)
  have G1 := hide (fun w => (H1.out w).mono (R' := fun e w' => e = .returned (.complex .f64 X1 Y1) ∧ w' = w) fun _ _ h => ⟨h.1, h.2.symm⟩)
  have G2 := hide (fun w => (H2.out w).mono (R' := fun e w' => e = .returned (.complex .f64 X2 Y2) ∧ w' = w) fun _ _ h => ⟨h.1, h.2.symm⟩)
  have G3 := hide (fun w => (H3.out w).mono (R' := fun e w' => e = .returned (.complex .f64 X3 Y3) ∧ w' = w) fun _ _ h => ⟨h.1, h.2.symm⟩)
  go_enter Tryd.func5, Tryd.ntmps5
  have B0 := hide ((((Below.refl w.heap.size w).alloc (Nat.le_refl _) (.cells #[.int .i64 a, .int .i64 b] 33)).alloc (by simp) (.cells #[.int .i64 c, .int .i64 d] 33)).alloc (by simp; omega) (.cells #[.int .i64 e, .int .i64 f] 33))
  have CE := hide (fun (wk : World) h => order_cells a b c d e f w wk h)
  go_wp2_with fail
  refine (HA.out _).mono ?_; rintro _ w1 ⟨rfl, hb1⟩
  have B1 := hide (B0.out.trans (hb1.mono B0.out.size))
  obtain ⟨c1, c2, c3, c4, c5, c6⟩ := CE.out w1 hb1
  clear hb1
  go_wp2
  go_quiet ((go_at_call 7; first | with_reducible exact Calls.quiet_of_same (G1.out _) | with_reducible exact Calls.quiet_of_same (G2.out _) | with_reducible exact Calls.quiet_of_same (G3.out _)))
  have B2 := hide (below_drewN B1.out nq)
  clear c1 c2 c3 c4 c5 c6
  go_wp2_with fail
  refine (R1.out _).mono ?_; rintro _ w' ⟨rfl, rfl⟩
  go_wp2
  go_ret
  exact ⟨rfl, B2.out⟩

set_option maxHeartbeats 1000000 in
theorem order_no2 (a b c d e f : Int) (w : World) (X1 Y1 X2 Y2 X3 Y3 : Nat) (H1 : Hid (∀ w, Calls Tryd.prog 7 #[.int .i64 a, .int .i64 b] w fun e w' => e = .returned (.complex .f64 X1 Y1) ∧ w = w')) (H2 : Hid (∀ w, Calls Tryd.prog 7 #[.int .i64 c, .int .i64 d] w fun e w' => e = .returned (.complex .f64 X2 Y2) ∧ w = w')) (H3 : Hid (∀ w, Calls Tryd.prog 7 #[.int .i64 e, .int .i64 f] w fun e w' => e = .returned (.complex .f64 X3 Y3) ∧ w = w')) (R1 : Hid (∀ w, Calls Tryd.prog 11 #[.complex .f64 X1 Y1] w fun e w' => e = .returned (.bool true) ∧ w = w')) (R2 : Hid (∀ w, Calls Tryd.prog 11 #[.complex .f64 X2 Y2] w fun e w' => e = .returned (.bool false) ∧ w = w')) :
    Calls Tryd.prog 5 #[.agg #[.int .i64 a, .int .i64 b], .agg #[.int .i64 c, .int .i64 d], .agg #[.int .i64 e, .int .i64 f]] w fun e w' => e = .returned (.bool true) ∧ Below w.heap.size w w' := by
  have HA := hide (fun w => alive6_any w)
  have G1 := hide (fun w => (H1.out w).mono (R' := fun e w' => e = .returned (.complex .f64 X1 Y1) ∧ w' = w) fun _ _ h => ⟨h.1, h.2.symm⟩)
  have G2 := hide (fun w => (H2.out w).mono (R' := fun e w' => e = .returned (.complex .f64 X2 Y2) ∧ w' = w) fun _ _ h => ⟨h.1, h.2.symm⟩)
  have G3 := hide (fun w => (H3.out w).mono (R' := fun e w' => e = .returned (.complex .f64 X3 Y3) ∧ w' = w) fun _ _ h => ⟨h.1, h.2.symm⟩)
  go_enter Tryd.func5, Tryd.ntmps5
  have B0 := hide ((((Below.refl w.heap.size w).alloc (Nat.le_refl _) (.cells #[.int .i64 a, .int .i64 b] 33)).alloc (by simp) (.cells #[.int .i64 c, .int .i64 d] 33)).alloc (by simp; omega) (.cells #[.int .i64 e, .int .i64 f] 33))
  have CE := hide (fun (wk : World) h => order_cells a b c d e f w wk h)
  go_wp2_with fail
  refine (HA.out _).mono ?_; rintro _ w1 ⟨rfl, hb1⟩
  have B1 := hide (B0.out.trans (hb1.mono B0.out.size))
  obtain ⟨c1, c2, c3, c4, c5, c6⟩ := CE.out w1 hb1
  clear hb1
  go_wp2
  go_quiet ((go_at_call 7; first | with_reducible exact Calls.quiet_of_same (G1.out _) | with_reducible exact Calls.quiet_of_same (G2.out _) | with_reducible exact Calls.quiet_of_same (G3.out _)))
  have B2 := hide (below_drewN B1.out nq)
  clear c1 c2 c3 c4 c5 c6
  go_wp2_with fail
  refine (R1.out _).mono ?_; rintro _ w' ⟨rfl, rfl⟩
  go_wp2_with fail
  refine (R2.out _).mono ?_; rintro _ w' ⟨rfl, rfl⟩
  go_wp2
  go_ret
  exact ⟨rfl, B2.out⟩

set_option maxHeartbeats 1000000 in
theorem order_no3 (a b c d e f : Int) (w : World) (X1 Y1 X2 Y2 X3 Y3 : Nat) (H1 : Hid (∀ w, Calls Tryd.prog 7 #[.int .i64 a, .int .i64 b] w fun e w' => e = .returned (.complex .f64 X1 Y1) ∧ w = w')) (H2 : Hid (∀ w, Calls Tryd.prog 7 #[.int .i64 c, .int .i64 d] w fun e w' => e = .returned (.complex .f64 X2 Y2) ∧ w = w')) (H3 : Hid (∀ w, Calls Tryd.prog 7 #[.int .i64 e, .int .i64 f] w fun e w' => e = .returned (.complex .f64 X3 Y3) ∧ w = w')) (R1 : Hid (∀ w, Calls Tryd.prog 11 #[.complex .f64 X1 Y1] w fun e w' => e = .returned (.bool true) ∧ w = w')) (R2 : Hid (∀ w, Calls Tryd.prog 11 #[.complex .f64 X2 Y2] w fun e w' => e = .returned (.bool true) ∧ w = w')) (R3 : Hid (∀ w, Calls Tryd.prog 11 #[.complex .f64 X3 Y3] w fun e w' => e = .returned (.bool false) ∧ w = w')) :
    Calls Tryd.prog 5 #[.agg #[.int .i64 a, .int .i64 b], .agg #[.int .i64 c, .int .i64 d], .agg #[.int .i64 e, .int .i64 f]] w fun e w' => e = .returned (.bool true) ∧ Below w.heap.size w w' := by
  have HA := hide (fun w => alive6_any w)
  have G1 := hide (fun w => (H1.out w).mono (R' := fun e w' => e = .returned (.complex .f64 X1 Y1) ∧ w' = w) fun _ _ h => ⟨h.1, h.2.symm⟩)
  have G2 := hide (fun w => (H2.out w).mono (R' := fun e w' => e = .returned (.complex .f64 X2 Y2) ∧ w' = w) fun _ _ h => ⟨h.1, h.2.symm⟩)
  have G3 := hide (fun w => (H3.out w).mono (R' := fun e w' => e = .returned (.complex .f64 X3 Y3) ∧ w' = w) fun _ _ h => ⟨h.1, h.2.symm⟩)
  go_enter Tryd.func5, Tryd.ntmps5
  have B0 := hide ((((Below.refl w.heap.size w).alloc (Nat.le_refl _) (.cells #[.int .i64 a, .int .i64 b] 33)).alloc (by simp) (.cells #[.int .i64 c, .int .i64 d] 33)).alloc (by simp; omega) (.cells #[.int .i64 e, .int .i64 f] 33))
  have CE := hide (fun (wk : World) h => order_cells a b c d e f w wk h)
  go_wp2_with fail
  refine (HA.out _).mono ?_; rintro _ w1 ⟨rfl, hb1⟩
  have B1 := hide (B0.out.trans (hb1.mono B0.out.size))
  obtain ⟨c1, c2, c3, c4, c5, c6⟩ := CE.out w1 hb1
  clear hb1
  go_wp2
  go_quiet ((go_at_call 7; first | with_reducible exact Calls.quiet_of_same (G1.out _) | with_reducible exact Calls.quiet_of_same (G2.out _) | with_reducible exact Calls.quiet_of_same (G3.out _)))
  have B2 := hide (below_drewN B1.out nq)
  clear c1 c2 c3 c4 c5 c6
  go_wp2_with fail
  refine (R1.out _).mono ?_; rintro _ w' ⟨rfl, rfl⟩
  go_wp2_with fail
  refine (R2.out _).mono ?_; rintro _ w' ⟨rfl, rfl⟩
  go_wp2_with fail
  refine (R3.out _).mono ?_; rintro _ w' ⟨rfl, rfl⟩
  go_wp2
  go_ret
  exact ⟨rfl, B2.out⟩

set_option maxHeartbeats 2000000 in
theorem order_yes (a b c d e f : Int) (w : World) (X1 Y1 X2 Y2 X3 Y3 : Nat) (x1 x2 x3 x4 E : Bool) (H1 : Hid (∀ w, Calls Tryd.prog 7 #[.int .i64 a, .int .i64 b] w fun e w' => e = .returned (.complex .f64 X1 Y1) ∧ w = w')) (H2 : Hid (∀ w, Calls Tryd.prog 7 #[.int .i64 c, .int .i64 d] w fun e w' => e = .returned (.complex .f64 X2 Y2) ∧ w = w')) (H3 : Hid (∀ w, Calls Tryd.prog 7 #[.int .i64 e, .int .i64 f] w fun e w' => e = .returned (.complex .f64 X3 Y3) ∧ w = w')) (R1 : Hid (∀ w, Calls Tryd.prog 11 #[.complex .f64 X1 Y1] w fun e w' => e = .returned (.bool true) ∧ w = w')) (R2 : Hid (∀ w, Calls Tryd.prog 11 #[.complex .f64 X2 Y2] w fun e w' => e = .returned (.bool true) ∧ w = w')) (R3 : Hid (∀ w, Calls Tryd.prog 11 #[.complex .f64 X3 Y3] w fun e w' => e = .returned (.bool true) ∧ w = w')) (B12 : Hid (∀ w, Calls Tryd.prog 13 #[.complex .f64 X1 Y1, .complex .f64 X2 Y2] w fun e w' => e = .returned (.bool x1) ∧ w = w')) (B21 : Hid (∀ w, Calls Tryd.prog 13 #[.complex .f64 X2 Y2, .complex .f64 X1 Y1] w fun e w' => e = .returned (.bool x2) ∧ w = w')) (B23 : Hid (∀ w, Calls Tryd.prog 13 #[.complex .f64 X2 Y2, .complex .f64 X3 Y3] w fun e w' => e = .returned (.bool x3) ∧ w = w')) (B13 : Hid (∀ w, Calls Tryd.prog 13 #[.complex .f64 X1 Y1, .complex .f64 X3 Y3] w fun e w' => e = .returned (.bool x4) ∧ w = w'))
    (hE : ((FloatKind.f64.format.order X1 X2 == some .eq) && (FloatKind.f64.format.order Y1 Y2 == some .eq)) = E)
    (hx : (x1 = true ∧ x2 = false ∧ E = false ∧ x3 = true ∧ x4 = true) ∨ (x1 = true ∧ x2 = false ∧ E = false ∧ x3 = false) ∨ (x1 = false ∧ x2 = true ∧ E = false) ∨ (x1 = false ∧ x2 = false ∧ E = true)) :
    Calls Tryd.prog 5 #[.agg #[.int .i64 a, .int .i64 b], .agg #[.int .i64 c, .int .i64 d], .agg #[.int .i64 e, .int .i64 f]] w fun e w' => e = .returned (.bool true) ∧ Below w.heap.size w w' := by
  have HA := hide (fun w => alive6_any w)
  have G1 := hide (fun w => (H1.out w).mono (R' := fun e w' => e = .returned (.complex .f64 X1 Y1) ∧ w' = w) fun _ _ h => ⟨h.1, h.2.symm⟩)
  have G2 := hide (fun w => (H2.out w).mono (R' := fun e w' => e = .returned (.complex .f64 X2 Y2) ∧ w' = w) fun _ _ h => ⟨h.1, h.2.symm⟩)
  have G3 := hide (fun w => (H3.out w).mono (R' := fun e w' => e = .returned (.complex .f64 X3 Y3) ∧ w' = w) fun _ _ h => ⟨h.1, h.2.symm⟩)
  rcases hx with ⟨rfl, rfl, rfl, rfl, rfl⟩ | ⟨rfl, rfl, rfl, rfl⟩ | ⟨rfl, rfl, rfl⟩ | ⟨rfl, rfl, rfl⟩
  · go_enter Tryd.func5, Tryd.ntmps5
    have B0 := hide ((((Below.refl w.heap.size w).alloc (Nat.le_refl _) (.cells #[.int .i64 a, .int .i64 b] 33)).alloc (by simp) (.cells #[.int .i64 c, .int .i64 d] 33)).alloc (by simp; omega) (.cells #[.int .i64 e, .int .i64 f] 33))
    have CE := hide (fun (wk : World) h => order_cells a b c d e f w wk h)
    go_wp2_with fail
    refine (HA.out _).mono ?_; rintro _ w1 ⟨rfl, hb1⟩
    have B1 := hide (B0.out.trans (hb1.mono B0.out.size))
    obtain ⟨c1, c2, c3, c4, c5, c6⟩ := CE.out w1 hb1
    clear hb1
    go_wp2
    go_quiet ((go_at_call 7; first | with_reducible exact Calls.quiet_of_same (G1.out _) | with_reducible exact Calls.quiet_of_same (G2.out _) | with_reducible exact Calls.quiet_of_same (G3.out _)))
    have B2 := hide (below_drewN B1.out nq)
    clear c1 c2 c3 c4 c5 c6
    go_wp2_with fail
    refine (R1.out _).mono ?_; rintro _ w' ⟨rfl, rfl⟩
    go_wp2_with fail
    refine (R2.out _).mono ?_; rintro _ w' ⟨rfl, rfl⟩
    go_wp2_with fail
    refine (R3.out _).mono ?_; rintro _ w' ⟨rfl, rfl⟩
    go_wp2_with fail
    refine (B12.out _).mono ?_; rintro _ w' ⟨rfl, rfl⟩
    go_wp2_with fail
    refine (B21.out _).mono ?_; rintro _ w' ⟨rfl, rfl⟩
    go_wp2_with fail
    refine (B12.out _).mono ?_; rintro _ w' ⟨rfl, rfl⟩
    go_wp2_with fail
    refine (B23.out _).mono ?_; rintro _ w' ⟨rfl, rfl⟩
    go_wp2_with fail
    refine (B13.out _).mono ?_; rintro _ w' ⟨rfl, rfl⟩
    go_wp2
    go_ret
    exact ⟨rfl, B2.out⟩
  · go_enter Tryd.func5, Tryd.ntmps5
    have B0 := hide ((((Below.refl w.heap.size w).alloc (Nat.le_refl _) (.cells #[.int .i64 a, .int .i64 b] 33)).alloc (by simp) (.cells #[.int .i64 c, .int .i64 d] 33)).alloc (by simp; omega) (.cells #[.int .i64 e, .int .i64 f] 33))
    have CE := hide (fun (wk : World) h => order_cells a b c d e f w wk h)
    go_wp2_with fail
    refine (HA.out _).mono ?_; rintro _ w1 ⟨rfl, hb1⟩
    have B1 := hide (B0.out.trans (hb1.mono B0.out.size))
    obtain ⟨c1, c2, c3, c4, c5, c6⟩ := CE.out w1 hb1
    clear hb1
    go_wp2
    go_quiet ((go_at_call 7; first | with_reducible exact Calls.quiet_of_same (G1.out _) | with_reducible exact Calls.quiet_of_same (G2.out _) | with_reducible exact Calls.quiet_of_same (G3.out _)))
    have B2 := hide (below_drewN B1.out nq)
    clear c1 c2 c3 c4 c5 c6
    go_wp2_with fail
    refine (R1.out _).mono ?_; rintro _ w' ⟨rfl, rfl⟩
    go_wp2_with fail
    refine (R2.out _).mono ?_; rintro _ w' ⟨rfl, rfl⟩
    go_wp2_with fail
    refine (R3.out _).mono ?_; rintro _ w' ⟨rfl, rfl⟩
    go_wp2_with fail
    refine (B12.out _).mono ?_; rintro _ w' ⟨rfl, rfl⟩
    go_wp2_with fail
    refine (B21.out _).mono ?_; rintro _ w' ⟨rfl, rfl⟩
    go_wp2_with fail
    refine (B12.out _).mono ?_; rintro _ w' ⟨rfl, rfl⟩
    go_wp2_with fail
    refine (B23.out _).mono ?_; rintro _ w' ⟨rfl, rfl⟩
    go_wp2
    go_ret
    exact ⟨rfl, B2.out⟩
  · go_enter Tryd.func5, Tryd.ntmps5
    have B0 := hide ((((Below.refl w.heap.size w).alloc (Nat.le_refl _) (.cells #[.int .i64 a, .int .i64 b] 33)).alloc (by simp) (.cells #[.int .i64 c, .int .i64 d] 33)).alloc (by simp; omega) (.cells #[.int .i64 e, .int .i64 f] 33))
    have CE := hide (fun (wk : World) h => order_cells a b c d e f w wk h)
    go_wp2_with fail
    refine (HA.out _).mono ?_; rintro _ w1 ⟨rfl, hb1⟩
    have B1 := hide (B0.out.trans (hb1.mono B0.out.size))
    obtain ⟨c1, c2, c3, c4, c5, c6⟩ := CE.out w1 hb1
    clear hb1
    go_wp2
    go_quiet ((go_at_call 7; first | with_reducible exact Calls.quiet_of_same (G1.out _) | with_reducible exact Calls.quiet_of_same (G2.out _) | with_reducible exact Calls.quiet_of_same (G3.out _)))
    have B2 := hide (below_drewN B1.out nq)
    clear c1 c2 c3 c4 c5 c6
    go_wp2_with fail
    refine (R1.out _).mono ?_; rintro _ w' ⟨rfl, rfl⟩
    go_wp2_with fail
    refine (R2.out _).mono ?_; rintro _ w' ⟨rfl, rfl⟩
    go_wp2_with fail
    refine (R3.out _).mono ?_; rintro _ w' ⟨rfl, rfl⟩
    go_wp2_with fail
    refine (B12.out _).mono ?_; rintro _ w' ⟨rfl, rfl⟩
    go_wp2_with fail
    refine (B21.out _).mono ?_; rintro _ w' ⟨rfl, rfl⟩
    go_wp2_with fail
    refine (B12.out _).mono ?_; rintro _ w' ⟨rfl, rfl⟩
    go_wp2
    go_ret
    exact ⟨rfl, B2.out⟩
  · go_enter Tryd.func5, Tryd.ntmps5
    have B0 := hide ((((Below.refl w.heap.size w).alloc (Nat.le_refl _) (.cells #[.int .i64 a, .int .i64 b] 33)).alloc (by simp) (.cells #[.int .i64 c, .int .i64 d] 33)).alloc (by simp; omega) (.cells #[.int .i64 e, .int .i64 f] 33))
    have CE := hide (fun (wk : World) h => order_cells a b c d e f w wk h)
    go_wp2_with fail
    refine (HA.out _).mono ?_; rintro _ w1 ⟨rfl, hb1⟩
    have B1 := hide (B0.out.trans (hb1.mono B0.out.size))
    obtain ⟨c1, c2, c3, c4, c5, c6⟩ := CE.out w1 hb1
    clear hb1
    go_wp2
    go_quiet ((go_at_call 7; first | with_reducible exact Calls.quiet_of_same (G1.out _) | with_reducible exact Calls.quiet_of_same (G2.out _) | with_reducible exact Calls.quiet_of_same (G3.out _)))
    have B2 := hide (below_drewN B1.out nq)
    clear c1 c2 c3 c4 c5 c6
    go_wp2_with fail
    refine (R1.out _).mono ?_; rintro _ w' ⟨rfl, rfl⟩
    go_wp2_with fail
    refine (R2.out _).mono ?_; rintro _ w' ⟨rfl, rfl⟩
    go_wp2_with fail
    refine (R3.out _).mono ?_; rintro _ w' ⟨rfl, rfl⟩
    go_wp2_with fail
    refine (B12.out _).mono ?_; rintro _ w' ⟨rfl, rfl⟩
    go_wp2_with fail
    refine (B21.out _).mono ?_; rintro _ w' ⟨rfl, rfl⟩
    go_wp2_with fail
    refine (B12.out _).mono ?_; rintro _ w' ⟨rfl, rfl⟩
    go_wp2
    go_ret
    exact ⟨rfl, B2.out⟩

theorem placeOrder_walk (a b c d e f : Int) (w : World) :
    Calls Tryd.prog 5 #[.agg #[.int .i64 a, .int .i64 b], .agg #[.int .i64 c, .int .i64 d], .agg #[.int .i64 e, .int .i64 f]] w fun e w' => e = .returned (.bool true) ∧ Below w.heap.size w w' := by
  obtain ⟨X1, Y1, O1, R1⟩ := of_any a b
  obtain ⟨X2, Y2, O2, R2⟩ := of_any c d
  obtain ⟨X3, Y3, O3, R3⟩ := of_any e f
  rcases R1 with R1 | ⟨p1, p2, rfl, rfl⟩
  · exact order_no1 a b c d e f w _ _ _ _ _ _ (hide O1) (hide O2) (hide O3) (hide R1)
  · rcases R2 with R2 | ⟨p3, p4, rfl, rfl⟩
    · exact order_no2 a b c d e f w _ _ _ _ _ _ (hide O1) (hide O2) (hide O3) (hide fun w => right_yes a b w p1 p2) (hide R2)
    · rcases R3 with R3 | ⟨p5, p6, rfl, rfl⟩
      · exact order_no3 a b c d e f w _ _ _ _ _ _ (hide O1) (hide O2) (hide O3) (hide fun w => right_yes a b w p1 p2) (hide fun w => right_yes c d w p3 p4) (hide R3)
      · refine order_yes a b c d e f w _ _ _ _ _ _ (befP a b c d) (befP c d a b) (befP c d e f) (befP a b e f) (decide (a = c) && decide (b = d)) (hide O1) (hide O2) (hide O3) (hide fun w => right_yes a b w p1 p2) (hide fun w => right_yes c d w p3 p4) (hide fun w => right_yes e f w p5 p6) (hide fun w => before_any a b c d w p1 p2 p3 p4) (hide fun w => before_any c d a b w p3 p4 p1 p2) (hide fun w => before_any c d e f w p3 p4 p5 p6) (hide fun w => before_any a b e f w p1 p2 p5 p6) ?_ ?_
        · rw [eq_fl a c p1.in p3.in, eq_fl b d p2.in p4.in]
        · unfold befP
          simp only [Bool.or_eq_true, Bool.and_eq_true, decide_eq_true_eq, Bool.and_eq_false_iff, Bool.or_eq_false_iff, decide_eq_false_iff_not]
          omega
end Go.Proofs.YtdlikcihljfgbaaDoor
