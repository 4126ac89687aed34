/- The walk of the statement of numbers there and back over this program. -/
import Derived.Test.YtihdkaggjinmmaaAlive5
namespace Go.Proofs.Ytihdkaggjinmmaa
open Go.RowKit

theorem codeBack_long (A A' : Option Addr) (c c' n : Nat) (l t : List Int) (w : World) (h2 : ¬ (l.length ≤ 300 ∧ t.length ≤ 300)) :
    Calls Try.prog 5 #[.slice A l.length c, .int .u32 n, .slice A' t.length c'] w fun e w' => e = .returned (.bool true) ∧ Below w.heap.size w w' := by
  have HA := hide (alive5_any w)
  by_cases h3 : (l.length : Int) > 300
  · clear h2
    go_enter Try.func5, Try.ntmps5
    go_wp2_with fail
    refine HA.out.mono ?_; rintro _ w1 ⟨rfl, hb1⟩
    go_wp2
    go_ret
    exact ⟨rfl, hb1⟩
  · have h4 : (t.length : Int) > 300 := by omega
    clear h2
    go_enter Try.func5, Try.ntmps5
    go_wp2_with fail
    refine HA.out.mono ?_; rintro _ w1 ⟨rfl, hb1⟩
    go_wp2
    go_ret
    exact ⟨rfl, hb1⟩

set_option maxHeartbeats 2000000 in
set_option maxRecDepth 100000 in
theorem codeBack_short (A A' : Option Addr) (c c' n : Nat) (l t : List Int) (w : World) (h2 : l.length ≤ 300) (h3 : t.length ≤ 300) (hr : RdB w w.heap.size A l) (hl : K.Bytes l) (hr' : RdB w w.heap.size A' t) (ht : K.Bytes t) (hc' : t.length ≤ c') (hm' : c' ≤ 9223372036854775807) (hn : n < 4294967296) :
    Calls Try.prog 5 #[.slice A l.length c, .int .u32 n, .slice A' t.length c'] w fun e w' => e = .returned (.bool true) ∧ Below w.heap.size w w' := by
  have HA := hide (alive5_any w)
  have hb1 := hl.app (V.put_bytes n)
  have hpl := V.put_len n hn
  have hget := V.get_put l t n hn
  have hbp := hb1.app ht
  have P1 := hide (fun (w1 : World) (h : Below w.heap.size w w1) => put_any A c l n w1 (hr.up h) hn (by omega))
  have G1 := hide (fun (A : Option Addr) (c : Nat) (w : World) (h : RdB w w.heap.size A (l ++ V.put n ++ t)) (hc : (l ++ V.put n ++ t).length ≤ c) (hm : c ≤ 9223372036854775807) => show Calls Try.prog 8 #[.slice A (l ++ V.put n ++ t).length c, .int .i64 l.length] w (fun e w' => e = .returned (.tuple #[.int .u32 n, .int .i64 ((l.length + (V.put n).length : Nat) : Int), .int .i64 0]) ∧ w' = w) by
    have q := get_any A c _ _ (l.length : Int) w h hbp hc hm
    rw [hget] at q; exact q)
  have G2 := hide (fun (w1 : World) (h : Below w.heap.size w w1) => get_any A' c' _ t 0 w1 (hr'.up h) ht hc' hm')
  have P2 := hide (fun (y : Nat) (hy : y < 4294967296) (w1 : World) => put_any none 0 [] y w1 (RdB.nil _ _ _) hy (by simp))
  have HB := hide (fun (y to : Nat) (h : V.get t 0 = (y, to, 0)) => by
    have := V.get_back ht h
    simpa using this)
  have CP := hide (fun (y : Nat) (w1 : World) (A : Option Addr) (m c : Nat) (hm : m = (V.put y).length) (h : RdB w1 w1.heap.size A (V.put y)) => show (convert 22 9 (.slice A m c)).run Try.prog w1 = .ok (.string (K.str (V.put y))) w1 by
    rw [hm]; exact str_conv h (V.put_bytes y) c)
  obtain ⟨N, hN⟩ : ∃ N, (l ++ V.put n ++ t).length = N := ⟨_, rfl⟩
  have hP : (((l.length + (V.put n).length : Nat) : Int) != (N : Int) - (t.length : Int)) = false := by
    rw [List.length_append, List.length_append] at hN
    simp; omega
  have hNl : N ≤ 1000 := by rw [List.length_append, List.length_append] at hN; omega
  generalize hPP : l.length + (V.put n).length = P at *
  rw [hN] at G1
  have HN := hide hN
  have HR := hide hr
  have HR' := hide hr'
  have HNL := hide hNl
  clear hN hNl hPP hr hr' hbp hb1 hpl hget hn hl
  generalize l ++ V.put n = lp at *
  have HAL := hide (show [] ++ lp ++ t = lp ++ t by rw [List.nil_append])
  have HLP := hide (show lp.length + t.length = N by have := HN.out; rw [List.length_append] at this; exact this)
  have hlp : lp.length ≤ 1000 := by have := HLP.out; have := HNL.out; omega
  have hN1 : N ≤ 1000 := HNL.out
  have hN2 : t.length ≤ N := by have := HLP.out; omega
  generalize lp ++ t = al at *
  go_enter Try.func5, Try.ntmps5
  go_wp2_with fail
  refine HA.out.mono ?_; rintro _ w1 ⟨rfl, hb1⟩
  have B1 := hide hb1
  clear hb1
  go_wp2_with fail
  refine (P1.out _ (B1.out.alloc B1.out.size _)).mono ?_; rintro _ w2 ⟨v2, rfl, ho2, hb2⟩
  have E2 := hide ((ownB_empty w1).below hb2 (Nat.le_refl _))
  have B12 := hide (((Below.refl w1.heap.size w1).alloc (Nat.le_refl _) (.cells #[] 5)).trans (hb2.mono (by simp)))
  obtain ⟨A2, c2, rfl, _, _, hr2⟩ := ho2.form
  have R2 := hide hr2
  clear ho2 hb2 hr2
  go_wp2_with (first
    | (at_builtin; refine apnB_arm rfl (.tmp 24) (.tmp 27) _ rfl Try.underlying22 w1.heap.size _ [] rfl E2.out w2.heap.size lp.length c2 A2 lp rfl rfl R2.out (by simp; omega) B12.out.size ?_; intro v3 w3 ho3 hg3; have hb3 := below_grownB B12.out E2.out hg3 B12.out.size)
    | (at_builtin; refine apnB_arm rfl (.tmp 28) (.tmp 29) _ rfl Try.underlying22 w1.heap.size _ ([] ++ lp) rfl ho3 w.heap.size t.length c' A' t rfl rfl (HR'.out.below (B1.out.trans (hb3.mono B1.out.size)) (Nat.le_refl _)) (by simp; omega) hb3.size ?_; intro v4 w4 ho4 hg4))
  have hb4 := below_grownB hb3 ho3 hg4 hb3.size
  have B4 := hide (B1.out.trans (hb4.mono B1.out.size))
  rw [HAL.out] at ho4
  obtain ⟨A4, c4, rfl, hc4, hm4, hr4⟩ := ho4.form
  rw [HN.out] at hc4 ⊢
  have R4 := hide hr4
  have C4 := hide hc4
  have M4 := hide (show c4 ≤ 9223372036854775807 by unfold maxLen at hm4; omega)
  clear ho3 ho4 hg3 hg4 hb3 hb4 hr4 hc4 hm4 B12 E2 R2
  go_wp2_with fail
  refine (G1.out A4 c4 w4 R4.out C4.out M4.out).mono ?_; rintro _ w4 ⟨rfl, rfl⟩
  have G3 := G2.out w4 B4.out
  generalize hres : V.get t 0 = r at *
  obtain ⟨y, to, f⟩ := r
  have G4 := hide (show Calls Try.prog 8 #[.slice A' t.length c', .int .i64 0] w4 (fun e w' => e = .returned (.tuple #[.int .u32 y, .int .i64 to, .int .i64 f]) ∧ w' = w4) from G3)
  clear G3 hres
  go_wp2_with fail
  refine G4.out.mono ?_; rintro _ w4 ⟨rfl, rfl⟩
  clear G4
  by_cases hf : f = 0
  · subst hf
    obtain ⟨k1, k2, k3, k4⟩ := HB.out y to rfl
    obtain ⟨g, o, rfl, _, _⟩ := HR'.out (by omega)
    have hd4 : Below w4.heap.size w4 w4.drew := below_drewN (Below.refl _ _) 1
    have hto0 : (0 : Int) ≤ (to : Int) := by omega
    have hto1 : (to : Int) ≤ (t.length : Int) := by omega
    have hto2 : (to : Int) ≤ (c' : Int) := by omega
    have hto3 : ¬ c' = 0 := by omega
    have CT := fun x : Calm.On w4.heap.size w4 => show (convert 22 9 (.slice (some ⟨g, o, none⟩) to c')).run Try.prog x.1 = .ok (.string (K.str (V.put y))) x.1 by
      have h := ((HR'.out.up B4.out).up x.2).take to
      rw [k3] at h
      exact CP.out y x.1 _ to c' (by rw [← k3, List.length_take]; omega) h
    have L1 := hide (fun (w5 : World) (h5 : Below w4.heap.size w4 w5) => show Calls Try.prog 10 #[.slice none 0 0, .int .u32 y] w5 (fun e w' => ∃ A6 n6 c6, e = .returned (.slice A6 n6 c6) ∧ Below w.heap.size w w' ∧ Below w4.heap.size w4 w' ∧ (convert 22 9 (.slice A6 n6 c6)).run Try.prog w' = .ok (.string (K.str (V.put y))) w') from
      (P2.out y k4 w5).mono (by
        rintro _ w6 ⟨v, rfl, ho, hb⟩
        rw [List.nil_append] at ho
        obtain ⟨A6, c6, rfl, _, _, hr6⟩ := ho.form
        have h6 := h5.trans (hb.mono h5.size)
        exact ⟨A6, _, c6, rfl, B4.out.trans (h6.mono B4.out.size), h6, CP.out y w6 A6 _ c6 rfl hr6⟩))
    generalize K.str (V.put y) = sy at *
    clear k3 k4 CP P2 G2 P1 HB HAL HLP HN HNL R4 C4 M4 ht hlp
    go_wp2_with fail
    refine Calm.region_calm (fun w' => ∃ x : Calm.On w4.heap.size w4, w' = x.1) [([0, 1, 2, 3, 4, 5, 6, 7, 8, 9, 10, 11, 12, 15, 16, 17, 18], 13)] [14, 19, 20, 21, 22] (by kernel_rfl) (by kernel_rfl) (fun _ _ d _ _ h => by cases d <;> exact h) ⟨⟨w4.drew, hd4⟩, rfl⟩ ?_
    simp only [Calm.wpPh, Calm.phOps, Calm.pickOps, List.getElem?_toArray, List.getElem?_cons_zero, List.getElem?_cons_succ]
    repeat (go_big_quiet_step (fail))
    refine wpQuiet_nil ?_
    intro K hK
    rw [if_pos (by rfl)]
    go_wp2_with fail
    refine (L1.out _ hd4).mono ?_; rintro _ w6 ⟨A6, n6, c6, rfl, h06, h46, x1⟩
    go_wp2_with fail
    refine ⟨⟨⟨w6, h46⟩, rfl⟩, fun w' => w' = w6, ?_, rfl, ?_⟩
    · intro x hx; exact ⟨⟨w6, h46⟩, hx⟩
    repeat (go_big_quiet_step (fail))
    refine wpQuiet_nil ?_
    go_wp2
    go_ret
    exact ⟨rfl, h06⟩
  · have hne : ((f : Int) != 0) = true := by simp; omega
    clear hf
    go_wp2_with fail
    go_quiet (fail)
    go_wp2
    go_ret
    exact ⟨rfl, below_drewN B4.out _⟩

theorem codeBack_walk (A A' : Option Addr) (c c' n : Nat) (l t : List Int) (w : World) (hr : RdB w w.heap.size A l) (hl : K.Bytes l) (hr' : RdB w w.heap.size A' t) (ht : K.Bytes t) (hc' : t.length ≤ c') (hm' : c' ≤ 9223372036854775807) (hn : n < 4294967296) :
    Calls Try.prog 5 #[.slice A l.length c, .int .u32 n, .slice A' t.length c'] w fun e w' => e = .returned (.bool true) ∧ Below w.heap.size w w' := by
  by_cases h2 : l.length ≤ 300 ∧ t.length ≤ 300
  · exact codeBack_short A A' c c' n l t w h2.1 h2.2 hr hl hr' ht hc' hm' hn
  · exact codeBack_long A A' c c' n l t w h2
end Go.Proofs.Ytihdkaggjinmmaa
