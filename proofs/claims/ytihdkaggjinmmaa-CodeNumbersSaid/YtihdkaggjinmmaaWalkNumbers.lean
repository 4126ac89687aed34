/- The walk of the statement of numbers in bytes over this program. -/
import Derived.Test.YtihdkaggjinmmaaAlive5
namespace Go.Proofs.Ytihdkaggjinmmaa
open Go.RowKit

theorem codeNumbers_long (A : Option Addr) (c n : Nat) (a : Int) (l : List Int) (w : World) (h2 : ¬ l.length ≤ 1000) :
    Calls Try.prog 3 #[.slice A l.length c, .int .i64 a, .int .u32 n] w fun e w' => e = .returned (.bool true) ∧ Below w.heap.size w w' := by
  have HA := hide (alive5_any w)
  have h3 : (l.length : Int) > 1000 := by omega
  go_enter Try.func3, Try.ntmps3
  go_wp2_with fail
  refine HA.out.mono ?_; rintro _ w1 ⟨rfl, hb1⟩
  go_wp2
  go_ret
  exact ⟨rfl, hb1⟩

set_option maxHeartbeats 2000000 in
set_option maxRecDepth 100000 in
theorem codeNumbers_short (A : Option Addr) (c n : Nat) (a : Int) (l : List Int) (w : World) (h2 : l.length ≤ 1000) (hr : RdB w w.heap.size A l) (hl : K.Bytes l) (hn : n < 4294967296) :
    Calls Try.prog 3 #[.slice A l.length c, .int .i64 a, .int .u32 n] w fun e w' => e = .returned (.bool true) ∧ Below w.heap.size w w' := by
  have HA := hide (alive5_any w)
  have hbp := hl.app (V.put_bytes n)
  have G1 := hide (fun (A : Option Addr) (c : Nat) (w : World) (h : RdB w w.heap.size A l) (hc : l.length ≤ c) (hm : c ≤ 9223372036854775807) => get_any A c _ l a w h hl hc hm)
  have G2 := hide (fun (w1 : World) (h : Below w.heap.size w w1) => rget_any A c _ l a w1 (hr.up h) hl (by omega))
  have P1 := hide (fun (A : Option Addr) (c : Nat) (w : World) (h : RdB w w.heap.size A l) => put_any A c l n w h hn (by omega))
  have P2 := hide (fun (w1 : World) (h : Below w.heap.size w w1) => rput_any A c l n w1 (hr.up h) hn (by omega))
  have CB := hide (fun (w1 : World) (A : Option Addr) (n c : Nat) (hn : n = l.length) (h : RdB w1 w1.heap.size A l) => show (convert 22 9 (.slice A n c)).run Try.prog w1 = .ok (.string (K.str l)) w1 by
    rw [hn]; exact str_conv h hl c)
  have CP := hide (fun (w1 : World) (A : Option Addr) (m c : Nat) (hm : m = (l ++ V.put n).length) (h : RdB w1 w1.heap.size A (l ++ V.put n)) => show (convert 22 9 (.slice A m c)).run Try.prog w1 = .ok (.string (K.str (l ++ V.put n))) w1 by
    rw [hm]; exact str_conv h hbp c)
  generalize K.str (l ++ V.put n) = sp at *
  generalize l ++ V.put n = lp at *
  generalize K.str l = sl at *
  generalize V.get l a = r at *
  obtain ⟨x, p, er⟩ := r
  simp only [V.ans] at G1 G2
  have HR := hide hr
  clear hr hl hbp hn
  go_enter Try.func3, Try.ntmps3
  go_wp2_with fail
  refine HA.out.mono ?_; rintro _ w1 ⟨rfl, hb1⟩
  have B1 := hide hb1
  clear hb1
  go_wp2_with (at_builtin; refine apnB_arm rfl (.tmp 19) (.tmp 20) _ rfl Try.underlying22 w1.heap.size _ [] rfl (ownB_empty w1) w.heap.size l.length c A l rfl rfl ((HR.out.below B1.out (Nat.le_refl _)).alloc B1.out.size _) (by simp; omega) (by simp) ?_; intro v2 w2 ho2 hg2)
  have hb2 := below_grownB ((Below.refl w1.heap.size w1).alloc (Nat.le_refl _) (.cells #[] 5)) (ownB_empty w1) hg2 (by simp)
  have B2 := hide (B1.out.trans (hb2.mono B1.out.size))
  rw [List.nil_append] at ho2
  obtain ⟨A2, c2, rfl, hc2, hm2, hr2⟩ := ho2.form
  have R2 := hide hr2
  have C2 := hide hc2
  have M2 := hide (show c2 ≤ 9223372036854775807 by unfold maxLen at hm2; omega)
  clear hb2 ho2 hg2 hr2 hc2 hm2
  go_wp2_with fail
  refine (G1.out A2 c2 w2 R2.out C2.out M2.out).mono ?_; rintro _ w2 ⟨rfl, rfl⟩
  go_wp2_with fail
  refine (G2.out w2 B2.out).mono ?_; rintro _ w2 ⟨rfl, rfl⟩
  have hd2 : Below w2.heap.size w2 w2.drew := below_drewN (Below.refl _ _) 1
  have L1 := hide (fun (w3 : World) (h3 : Below w2.heap.size w2 w3) => show Calls Try.prog 10 #[.slice A2 l.length c2, .int .u32 n] w3 (fun e w' => ∃ A4 n4 c4, e = .returned (.slice A4 n4 c4) ∧ Below w2.heap.size w2 w' ∧ n4 = lp.length ∧ RdB w' w'.heap.size A4 lp) from
    (P1.out A2 c2 w3 (R2.out.up h3)).mono (by
      rintro _ w4 ⟨v, rfl, ho, hb⟩
      obtain ⟨A4, c4, rfl, _, _, hr4⟩ := ho.form
      exact ⟨A4, _, c4, rfl, h3.trans (hb.mono h3.size), rfl, hr4⟩))
  have L2 := hide (fun (w4 w5 : World) (A4 : Option Addr) (n4 c4 : Nat) (h4 : Below w2.heap.size w2 w4) (hn4 : n4 = lp.length) (hr4 : RdB w4 w4.heap.size A4 lp) (h5 : Below w4.heap.size w4 w5) => show Calls Try.prog 11 #[.slice A l.length c, .int .u32 n] w5 (fun e w' => ∃ A6 n6 c6, e = .returned (.slice A6 n6 c6) ∧ Below w.heap.size w w' ∧ Below w4.heap.size w4 w' ∧
      (convert 22 9 (.slice A6 n6 c6)).run Try.prog w' = .ok (.string sp) w' ∧
      (convert 22 9 (.slice A2 l.length c2)).run Try.prog w' = .ok (.string sl) w' ∧
      (convert 22 9 (.slice A l.length c)).run Try.prog w' = .ok (.string sl) w') from
    (P2.out w5 (B2.out.trans ((h4.trans (h5.mono h4.size)).mono B2.out.size))).mono (by
      rintro _ w6 ⟨v, rfl, ho, hb⟩
      obtain ⟨A6, c6, rfl, _, _, hr6⟩ := ho.form
      have h6 := h5.trans (hb.mono h5.size)
      have h26 := h4.trans (h6.mono h4.size)
      have h06 := B2.out.trans (h26.mono B2.out.size)
      exact ⟨A6, _, c6, rfl, h06, h6, CP.out w6 A6 _ c6 rfl hr6, CB.out w6 A2 _ c2 rfl (R2.out.up h26), CB.out w6 A _ c rfl (HR.out.up h06)⟩))
  clear G1 G2 P1 P2
  go_wp2_with fail
  refine Calm.region_calm (fun w' => ∃ x : Calm.On w2.heap.size w2, w' = x.1) [([0, 1, 2, 3, 4, 5, 6, 7, 8, 9, 10, 11, 12, 13, 14, 15, 18, 19], 16), ([17], 20)] [21, 22, 23, 24, 25, 26, 27, 28, 29, 30, 31] (by kernel_rfl) (by kernel_rfl) (fun _ _ d _ _ h => by cases d <;> exact h) ⟨⟨w2.drew, hd2⟩, rfl⟩ ?_
  simp only [Calm.wpPh, Calm.phOps, Calm.pickOps, List.getElem?_toArray, List.getElem?_cons_zero, List.getElem?_cons_succ]
  repeat (go_big_quiet_step (fail))
  refine wpQuiet_nil ?_
  intro K hK
  rw [if_pos (by rfl)]
  go_wp2_with fail
  refine (L1.out _ hd2).mono ?_; rintro _ w4 ⟨A4, n4, c4, rfl, h4, hn4, hr4⟩
  have HN4 := hide hn4
  have R4 := hide hr4
  clear hn4 hr4
  have CP4 := fun x : Calm.On w4.heap.size w4 => CP.out x.1 A4 n4 c4 HN4.out (R4.out.up x.2)
  go_wp2_with fail
  refine ⟨⟨⟨w4, h4⟩, rfl⟩, fun w' => ∃ x : Calm.On w4.heap.size w4, w' = x.1, ?_, ⟨⟨w4, Below.refl _ _⟩, rfl⟩, ?_⟩
  · rintro x ⟨y, hy⟩; exact ⟨⟨x, by rw [hy]; exact h4.trans (y.2.mono h4.size)⟩, rfl⟩
  repeat (go_big_quiet_step (fail))
  refine wpQuiet_nil ?_
  intro K2 hK2
  rw [if_pos (by rfl)]
  clear CP4
  go_wp2_with fail
  refine (L2.out w4 _ A4 n4 c4 h4 HN4.out R4.out (Below.refl _ _)).mono ?_; rintro _ w6 ⟨A6, n6, c6, rfl, h06, h46, x1, x2, x3⟩
  go_wp2_with fail
  refine ⟨⟨⟨w6, h46⟩, rfl⟩, fun w' => w' = w6, ?_, rfl, ?_⟩
  · intro x hx; exact ⟨⟨w6, h46⟩, hx⟩
  repeat (go_big_quiet_step (fail))
  refine wpQuiet_nil ?_
  go_wp2
  go_ret
  exact ⟨rfl, h06⟩

theorem codeNumbers_walk (A : Option Addr) (c n : Nat) (a : Int) (l : List Int) (w : World) (hr : RdB w w.heap.size A l) (hl : K.Bytes l) (hn : n < 4294967296) :
    Calls Try.prog 3 #[.slice A l.length c, .int .i64 a, .int .u32 n] w fun e w' => e = .returned (.bool true) ∧ Below w.heap.size w w' := by
  by_cases h2 : l.length ≤ 1000
  · exact codeNumbers_short A c n a l w h2 hr hl hn
  · exact codeNumbers_long A c n a l w h2
end Go.Proofs.Ytihdkaggjinmmaa
