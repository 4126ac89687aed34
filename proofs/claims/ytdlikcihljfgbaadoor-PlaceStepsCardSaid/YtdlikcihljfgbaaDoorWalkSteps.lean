/- The walk of the statement of a text's places, one behind the other, over this program. -/
import Derived.Test.YtdlikcihljfgbaaDoorWalkPlace
namespace Go.Proofs.YtdlikcihljfgbaaDoor
open Go.RowKit

theorem placeSteps_long (A : Option Addr) (c n : Nat) (i k : Int) (w : World) (h : n > 2000 ∨ n = 0) :
    Calls Tryd.prog 4 #[.slice A n c, .int .u16 i, .int .u16 k] w fun e w' => e = .returned (.bool true) ∧ Below w.heap.size w w' := by
  have HA := hide (alive6_any w)
  by_cases h1 : (n : Int) > 2000
  · clear h
    go_enter Tryd.func4, Tryd.ntmps4
    go_wp2_with fail
    refine HA.out.mono ?_; rintro _ w1 ⟨rfl, hb1⟩
    go_wp2
    go_ret
    exact ⟨rfl, hb1⟩
  · obtain rfl : n = 0 := by omega
    clear h
    go_enter Tryd.func4, Tryd.ntmps4
    go_wp2_with fail
    refine HA.out.mono ?_; rintro _ w1 ⟨rfl, hb1⟩
    go_wp2
    go_ret
    exact ⟨rfl, hb1⟩

set_option maxHeartbeats 1000000 in
theorem placeSteps_short (A : Option Addr) (c : Nat) (l : List Int) (i k : Nat) (w : World) (hr : RdB w w.heap.size A l) (hl : K.Bytes l) (hc : l.length ≤ c) (hi : i < 65536) (hk : k < 65536) (h2 : l.length ≤ 2000) (h0 : 0 < l.length) :
    Calls Tryd.prog 4 #[.slice A l.length c, .int .u16 i, .int .u16 k] w fun e w' => e = .returned (.bool true) ∧ Below w.heap.size w w' := by
  have HA := hide (alive6_any w)
  have h3 : ¬ (l.length : Int) > 2000 := by omega
  have h4 : ((l.length : Int) == 0) = false := beq_eq_false_iff_ne.2 (by omega)
  have t1 : (i : Int) % (l.length : Int) = ((i % l.length : Nat) : Int) := (Int.natCast_emod ..).symm
  have t2 : (k : Int) % (l.length : Int) = ((k % l.length : Nat) : Int) := (Int.natCast_emod ..).symm
  have m1 : i % l.length < l.length := Nat.mod_lt _ h0
  have m2 : k % l.length < l.length := Nat.mod_lt _ h0
  generalize i % l.length = x at *
  generalize k % l.length = y at *
  have T1 := hide t1
  have T2 := hide t2
  clear t1 t2
  obtain ⟨ox1, ox2⟩ := okp l x (by omega) h2
  obtain ⟨oy1, oy2⟩ := okp l y (by omega) h2
  have H1 := hide (fun (w : World) hr => at_in A c w.heap.size l x w hr hl h2 hc (by omega))
  have H2 := hide (fun (w : World) hr => at_in A c w.heap.size l y w hr hl h2 hc (by omega))
  have H3 := hide (fun (w : World) hr => at_in A c w.heap.size l (x + 1) w hr hl h2 hc (by omega))
  obtain ⟨g, o, rfl, _, hcl⟩ := hr (by omega)
  have hcell := hcl x (by omega)
  clear hcl
  have hnx := Pl.pos_next l x (by omega)
  obtain ⟨oz1, oz2⟩ := okp l (x + 1) (by omega) h2
  rw [hnx] at oz1 oz2 H3
  have hz := hl.getD x
  obtain ⟨q1, q2⟩ := bef_lt l x y (by omega) (by omega)
  generalize l.getD x 0 = z at *
  have HS := hide (fun w => show Calls Tryd.prog 12 #[.complex .f64 (Fl.fl (Pl.pos (l.take x)).1) (Fl.fl (Pl.pos (l.take x)).2), .int .u8 z] w fun e w' => e = .returned (.complex .f64 (Fl.fl (Pl.stp (Pl.pos (l.take x)) z).1) (Fl.fl (Pl.stp (Pl.pos (l.take x)) z).2)) ∧ w = w' by
    generalize Pl.pos (l.take x) = p at *
    unfold Pl.stp at *
    by_cases h10 : z = 10
    · subst h10
      rw [if_pos rfl] at *
      exact step_feed _ _ w ox1 ox2 oz1
    · rw [if_neg h10] at *
      exact step_on _ _ z w ox1 ox2 oz2 (by simpa using h10))
  have HRt := hide (fun w => right_yes _ _ w ox1 ox2)
  have HB := hide (fun w => before_any _ _ _ _ w ox1 ox2 oy1 oy2)
  rw [q1] at HB
  have f1 := eq_same _ oz1
  have f2 := eq_same _ oz2
  have f3 := eq_fl _ _ ox1.in oy1.in
  have f4 := eq_fl _ _ ox2.in oy2.in
  have f5 : ((FloatKind.f64.format.order (Fl.fl (Pl.pos (l.take x)).1) (Fl.fl (Pl.pos (l.take y)).1) == some .eq) && (FloatKind.f64.format.order (Fl.fl (Pl.pos (l.take x)).2) (Fl.fl (Pl.pos (l.take y)).2) == some .eq)) = decide (x = y) := by rw [f3, f4, q2]
  clear f3 f4 q1 q2 hnx ox1 ox2 oy1 oy2 oz1 oz2 hz
  generalize Fl.fl (Pl.stp (Pl.pos (l.take x)) z).1 = Z1 at *
  generalize Fl.fl (Pl.stp (Pl.pos (l.take x)) z).2 = Z2 at *
  generalize Fl.fl (Pl.pos (l.take x)).1 = X1 at *
  generalize Fl.fl (Pl.pos (l.take x)).2 = X2 at *
  generalize Fl.fl (Pl.pos (l.take y)).1 = Y1 at *
  generalize Fl.fl (Pl.pos (l.take y)).2 = Y2 at *
  have HR := hide (fun w' (hb : Below w.heap.size w w') => hr.up hb)
  have hc1 := hide (fun w' (hb : Below w.heap.size w w') => (hb.cell (p := ⟨g, o + x, none⟩) (by assumption)).trans hcell)
  clear hr hl hcell
  go_enter Tryd.func4, Tryd.ntmps4
  go_wp2_with fail
  refine HA.out.mono ?_; rintro _ w1 ⟨rfl, hb1⟩
  have B1 := hide hb1
  clear hb1 HA
  go_wp2
  go_quiet (fail)
  rw [T1.out, T2.out]
  have B2 := hide (below_drewN B1.out nq)
  have hcell := hc1.out _ B2.out
  go_wp2_with fail
  refine (H1.out _ (HR.out _ B2.out)).mono ?_; rintro _ w' ⟨rfl, rfl⟩
  go_wp2_with fail
  refine (H2.out _ (HR.out _ B2.out)).mono ?_; rintro _ w' ⟨rfl, rfl⟩
  go_wp2_with fail
  refine (HRt.out _).mono ?_; rintro _ w' ⟨rfl, rfl⟩
  go_wp2_with fail
  refine (HS.out _).mono ?_; rintro _ w' ⟨rfl, rfl⟩
  go_wp2_with fail
  refine (H3.out _ (HR.out _ B2.out)).mono ?_; rintro _ w' ⟨rfl, rfl⟩
  go_wp2_with fail
  refine (HB.out _).mono ?_; rintro _ w' ⟨rfl, rfl⟩
  go_wp2
  go_ret
  exact ⟨ret_bool (show (decide (x = y) == ((x : Int) == (y : Int))) = true by
    by_cases h : x = y
    · subst h; simp
    · rw [decide_eq_false h, beq_eq_false_iff_ne.2 (show ¬ (x : Int) = (y : Int) by omega)]; rfl), B2.out⟩

theorem placeSteps_walk (A : Option Addr) (c : Nat) (l : List Int) (i k : Nat) (w : World) (hr : RdB w w.heap.size A l) (hl : K.Bytes l) (hc : l.length ≤ c) (hi : i < 65536) (hk : k < 65536) :
    Calls Tryd.prog 4 #[.slice A l.length c, .int .u16 i, .int .u16 k] w fun e w' => e = .returned (.bool true) ∧ Below w.heap.size w w' := by
  by_cases h : l.length ≤ 2000 ∧ 0 < l.length
  · exact placeSteps_short A c l i k w hr hl hc hi hk h.1 h.2
  · exact placeSteps_long A c l.length i k w (by omega)
end Go.Proofs.YtdlikcihljfgbaaDoor
