/- The walks of the statements of sets over this program. -/
import Derived.Test.YtmpgccmggapigaaDoorAlive3
namespace Go.Proofs.YtmpgccmggapigaaDoor
open Go.RowKit

set_option maxHeartbeats 1000000 in
theorem setBelow_walk (n k : Int) (w : World) (n1 : n ≤ 9223372036854775807) (n0 : -9223372036854775808 ≤ n) (ht : Tab32 w) :
    Calls Tryd.prog 5 #[.int .i64 n, .int .i64 k] w fun e w' => e = .returned (.bool true) ∧ Below w.heap.size w w' := by
  have HA := hide (alive3_any w ht)
  have HB := hide (fun w : World => below_any n w)
  have HH := hide (fun w : World => has_any (S.below n) k w (S.below_lt n))
  have HC := hide (fun w : World => count_any (S.below n) w (S.below_lt n))
  have hh := hide (S.below_has n k)
  have hcc := hide (S.below_count n)
  generalize S.count (S.below n) = c at *
  generalize S.has (S.below n) k = b at *
  generalize S.below n = x at *
  have hc : (n < 0 ∧ c = 0) ∨ (0 ≤ n ∧ n ≤ 32 ∧ c = n) ∨ (32 < n ∧ c = 32) := by have := hcc.out; omega
  have hk : (k < 0 ∧ b = false) ∨ (0 ≤ k ∧ 32 ≤ k ∧ b = false) ∨ (0 ≤ k ∧ k < 32 ∧ n ≤ k ∧ b = false) ∨ (0 ≤ k ∧ k < 32 ∧ k < n ∧ b = true) := by
    have := hh.out
    by_cases a0 : 0 ≤ k
    · by_cases a1 : k < 32
      · by_cases a2 : k < n
        · exact .inr (.inr (.inr ⟨a0, a1, a2, by rw [this, decide_eq_true_iff]; exact ⟨a0, a1, a2⟩⟩))
        · exact .inr (.inr (.inl ⟨a0, a1, by omega, by rw [this, decide_eq_false_iff_not]; omega⟩))
      · exact .inr (.inl ⟨a0, by omega, by rw [this, decide_eq_false_iff_not]; omega⟩)
    · exact .inl ⟨by omega, by rw [this, decide_eq_false_iff_not]; omega⟩
  clear hh hcc
  go_enter Tryd.func5, Tryd.ntmps5
  go_wp2_with fail
  refine HA.out.mono ?_; rintro _ w1 ⟨rfl, hb1⟩
  have B1 := hide hb1
  clear hb1
  go_wp2_with fail
  refine (HB.out w1).mono ?_; rintro _ w1 ⟨rfl, rfl⟩
  go_wp2_with fail
  refine (HH.out w1).mono ?_; rintro _ w1 ⟨rfl, rfl⟩
  rcases hc with ⟨c1, rfl⟩ | ⟨c1, c2, rfl⟩ | ⟨c1, rfl⟩ <;> rcases hk with ⟨k1, rfl⟩ | ⟨k1, k2, rfl⟩ | ⟨k1, k2, k3, rfl⟩ | ⟨k1, k2, k3, rfl⟩
  all_goals first
    | omega
    | (go_wp2_with fail
       refine (HC.out w1).mono ?_; rintro _ w2 ⟨rfl, q, rfl⟩
       go_wp2
       go_ret
       first
         | exact ⟨rfl, below_drewN B1.out q⟩
         | exact ⟨ret_bool (by simp; omega), below_drewN B1.out q⟩)

set_option maxHeartbeats 1000000 in
theorem setAnswers_walk (s : Nat) (n : Int) (A : Option Addr) (c : Nat) (l : List Int) (w : World) (hs : s < 4294967296) (n1 : n ≤ 9223372036854775807) (hr : RdI w w.heap.size A l) (hl : ∀ z ∈ l, z ≤ 9223372036854775807)
    (hc : l.length ≤ c) (hcm : c ≤ 9223372036854775807) (ht : Tab32 w) :
    Calls Tryd.prog 3 #[.int .u32 s, .int .i64 n, .slice A l.length c] w fun e w' => e = .returned (.bool true) ∧ Below w.heap.size w w' := by
  have HA := hide (alive3_any w ht)
  have F1 := hide (fun (w : World) (h : RdI w w.heap.size A l) => of_any A c _ l w h (by omega))
  have F2 := hide (fun (w : World) (h : RdI w w.heap.size A l) => rof_any A c _ l w h (by omega) hl)
  have F3 := hide (fun w : World => has_any s n w hs)
  have F4 := hide (fun w : World => rhas_any s n w hs n1)
  have F5 := hide (fun (w : World) (h : Tab32 w) => members_any s w hs h)
  have F6 := hide (fun (w : World) => rmembers_any s w hs)
  have F7 := hide (fun w : World => count_any s w hs)
  have F8 := hide (fun w : World => rcount_any s w hs)
  have F9 := hide (fun (w : World) (h : Tab32 w) => least_any s w hs h)
  have F10 := hide (fun w : World => rleast_any s w hs)
  have F11 := hide (fun w : World => below_any n w)
  have F12 := hide (fun w : World => rbelow_any n w n1)
  have FI := hide (fun (A A' : Option Addr) (ca cb : Nat) (w : World) (h1 : RdI w w.heap.size A (S.mem s)) (h2 : RdI w w.heap.size A' (S.mem s)) => by
    have q := ints_any A A' ca cb _ _ w h1 h2 (by have := S.mem_len s; omega) (by have := S.mem_len s; omega)
    rw [decide_eq_true rfl] at q; exact q)
  generalize S.mem s = ms at *
  generalize S.count s = cn at *
  generalize S.least s = lt at *
  generalize S.has s n = b at *
  generalize S.below n = bn at *
  generalize S.of l = ol at *
  have HT := hide ht
  have HR := hide hr
  clear ht hr hl hs n1
  go_enter Tryd.func3, Tryd.ntmps3
  go_wp2_with fail
  refine HA.out.mono ?_; rintro _ w1 ⟨rfl, hb1⟩
  have B1 := hide hb1
  clear hb1
  by_cases h2 : (l.length : Int) > 200
  · go_wp2
    go_ret
    exact ⟨rfl, B1.out⟩
  · go_wp2_with fail
    refine (F1.out w1 (HR.out.up B1.out)).mono ?_; rintro _ w2 ⟨rfl, q2, hq2⟩
    have B2 := hide (show Below w.heap.size w w2 by rw [hq2]; exact below_drewN B1.out q2)
    clear hq2
    go_wp2_with fail
    refine (F2.out w2 (HR.out.up B2.out)).mono ?_; rintro _ w3 ⟨rfl, q3, hq3⟩
    have B3 := hide (show Below w.heap.size w w3 by rw [hq3]; exact below_drewN B2.out q3)
    clear hq3
    go_wp2_with fail
    refine (F3.out w3).mono ?_; rintro _ w3 ⟨rfl, rfl⟩
    go_wp2_with fail
    refine (F4.out w3).mono ?_; rintro _ w4 ⟨rfl, q4, hq4⟩
    have B4 := hide (show Below w.heap.size w w4 by rw [hq4]; exact below_drewN B3.out q4)
    clear hq4
    go_wp2_with fail
    refine (F5.out w4 (HT.out.below B4.out)).mono ?_; rintro _ w5 ⟨v5, rfl, ho5, hb5⟩
    obtain ⟨A5, c5, rfl, _, _, hr5⟩ := ho5.form
    have B5 := hide (B4.out.trans (hb5.mono B4.out.size))
    have R5 := hide hr5
    clear hr5 hb5 ho5
    go_wp2_with fail
    refine (F6.out w5).mono ?_; rintro _ w6 ⟨v6, rfl, ho6, hb6⟩
    obtain ⟨A6, c6, rfl, _, _, hr6⟩ := ho6.form
    have B6 := hide (B5.out.trans (hb6.mono B5.out.size))
    have R56 := hide (R5.out.up hb6)
    have R6 := hide hr6
    clear hr6 hb6 ho6
    go_wp2_with fail
    refine (FI.out A5 A6 c5 c6 w6 R56.out R6.out).mono ?_; rintro _ w7 ⟨rfl, q7, hq7⟩
    have B7 := hide (show Below w.heap.size w w7 by rw [hq7]; exact below_drewN B6.out q7)
    clear hq7
    go_wp2_with fail
    refine (F7.out w7).mono ?_; rintro _ w8 ⟨rfl, q8, hq8⟩
    have B8 := hide (show Below w.heap.size w w8 by rw [hq8]; exact below_drewN B7.out q8)
    clear hq8
    go_wp2_with fail
    refine (F8.out w8).mono ?_; rintro _ w9 ⟨rfl, hb9⟩
    have B9 := hide (B8.out.trans (hb9.mono B8.out.size))
    clear hb9
    go_wp2_with fail
    refine (F9.out w9 (HT.out.below B9.out)).mono ?_; rintro _ w9 ⟨rfl, rfl⟩
    go_wp2_with fail
    refine (F10.out w9).mono ?_; rintro _ w10 ⟨rfl, hb10⟩
    have B10 := hide (B9.out.trans (hb10.mono B9.out.size))
    clear hb10
    go_wp2_with fail
    refine (F11.out w10).mono ?_; rintro _ w10 ⟨rfl, rfl⟩
    go_wp2_with fail
    refine (F12.out w10).mono ?_; rintro _ w11 ⟨rfl, q11, hq11⟩
    have B11 := hide (show Below w.heap.size w w11 by rw [hq11]; exact below_drewN B10.out q11)
    clear hq11
    go_wp2
    go_ret
    exact ⟨rfl, B11.out⟩

set_option maxHeartbeats 400000 in
theorem setBack_walk (s t : Nat) (w : World) (hs : s < 4294967296) (hts : t < 4294967296) (ht : Tab32 w) :
    Calls Tryd.prog 4 #[.int .u32 s, .int .u32 t] w fun e w' => e = .returned (.bool true) ∧ Below w.heap.size w w' := by
  have HA := hide (alive3_any w ht)
  have F1 := hide (fun (w : World) (h : Tab32 w) => members_any s w hs h)
  have F2 := hide (fun (w : World) (h : Tab32 w) => members_any t w hts h)
  have ml := S.mem_len s
  have ml2 := S.mem_len t
  have HT := hide ht
  clear ht
  go_enter Tryd.func4, Tryd.ntmps4
  go_wp2_with fail
  refine HA.out.mono ?_; rintro _ w1 ⟨rfl, hb1⟩
  have B1 := hide hb1
  clear hb1
  go_wp2_with fail
  refine (F1.out w1 (HT.out.below B1.out)).mono ?_; rintro _ w2 ⟨v2, rfl, ho2, hb2⟩
  obtain ⟨A2, c2, rfl, hc2, hcm2, hr2⟩ := ho2.form
  have B2 := hide (B1.out.trans (hb2.mono B1.out.size))
  have R2 := hide hr2
  clear hr2 hb2 ho2
  go_wp2_with fail
  go_loopw [6] (fun vi wr => ∃ (k q : Nat), k ≤ (S.mem s).length ∧ vi = .int .i64 k ∧ wr = w2.drewN q) (fun vi _ => (S.mem s).length - (intOf vi).toNat)
  case atStart => exact ⟨0, 0, Nat.zero_le _, rfl, rfl⟩
  case round =>
    obtain ⟨k, q, hk, rfl, hwr⟩ := hrel
    have HW := hide hwr
    by_cases hlt : k < (S.mem s).length
    · obtain ⟨g, o, rfl, _, hc⟩ := R2.out (by omega)
      have hcell : wr.cell? ⟨g, o + k, none⟩ = some (.int .i64 ((S.mem s).getD k 0)) := by rw [hwr]; exact hc k hlt
      have hz := S.mem_getD hlt
      have hb := S.mem_lims hz
      have hb0 : decide ((S.mem s).getD k 0 < 0) = false := decide_eq_false_iff_not.2 (by omega)
      have hb1 : decide (31 < (S.mem s).getD k 0) = false := decide_eq_false_iff_not.2 (by omega)
      have FH := hide (fun w : World => show Calls Tryd.prog 9 #[.int .u32 s, .int .i64 ((S.mem s).getD k 0)] w (fun e w' => e = .returned (.bool true) ∧ w' = w) by
        have q := has_any s ((S.mem s).getD k 0) w hs; rw [S.mem_has hz] at q; exact q)
      have k1 : (k : Int) < ((S.mem s).length : Int) := by omega
      by_cases h0 : k = 0
      · subst h0
        rw [Nat.add_zero] at hcell
        generalize (S.mem s).getD 0 0 = z at *
        generalize (S.mem s).length = m at *
        clear hz hb hc hwr
        go_wp2_with fail
        go_quiet ((go_at_call 9; exact Calls.quiet_of_same (FH.out _)))
        go_wp2
        go_roundw
        case rel => exact ⟨1, _, hlt, by go_num, by rw [HW.out]; exact World.drewN_drewN _ _ _⟩
        case measure => simp [intOf]; omega
      · obtain ⟨j, hj⟩ : ∃ j, k = j + 1 := ⟨k - 1, by omega⟩
        have hcell2 : wr.cell? ⟨g, o + j, none⟩ = some (.int .i64 ((S.mem s).getD j 0)) := by rw [hwr]; exact hc j (by omega)
        have hlt2 := S.mem_rises (s := s) (j := j) (k := k) (by omega) hlt
        have hw1 : IntKind.i64.wrap ((k : Int) - 1) = (j : Int) := by simp [IntKind.wrap, IntKind.signed, IntKind.bits]; omega
        have hj1 : (j : Int) < ((S.mem s).length : Int) := by omega
        have hnlt : decide ((S.mem s).getD k 0 ≤ (S.mem s).getD j 0) = false := decide_eq_false_iff_not.2 (by omega)
        have hk0 : (0 : Int) < (k : Int) := by omega
        have hk1 : decide (0 < k) = true := decide_eq_true (by omega)
        generalize (S.mem s).getD k 0 = z at *
        generalize (S.mem s).getD j 0 = y at *
        generalize (S.mem s).length = m at *
        clear hz hb hc hwr hj
        go_wp2_with fail
        go_quiet ((go_at_call 9; exact Calls.quiet_of_same (FH.out _)))
        go_wp2
        go_roundw
        case rel => exact ⟨k + 1, _, hlt, by go_num, by rw [HW.out]; exact World.drewN_drewN _ _ _⟩
        case measure => simp [intOf]; omega
    · obtain rfl : k = (S.mem s).length := by omega
      have G1 := hide (fun (w : World) (h : RdI w w.heap.size A2 (S.mem s)) => by
        have q := of_any A2 c2 _ (S.mem s) w h (by omega); rw [S.of_mem hs] at q; exact q)
      have G2 := hide (fun (w : World) (A : Option Addr) (c n : Nat) (hn : n = (S.mem s ++ S.mem t).length) (h : RdI w w.heap.size A (S.mem s ++ S.mem t)) => by
        have q := of_any A c _ (S.mem s ++ S.mem t) w h (by rw [List.length_append]; omega); rw [S.of_both hs hts, ← hn, ← u32_or_nat s t hs hts] at q; exact q)
      have G3 := hide (fun w : World => show Calls Tryd.prog 14 #[.int .u32 s] w (fun e w' => e = .returned (.int .i64 ((S.mem s).length : Int)) ∧ ∃ n, w' = w.drewN n) from count_any s w hs)
      have G4 := hide (fun (w : World) (h : Tab32 w) => least_any s w hs h)
      have B3 := hide (show Below w.heap.size w wr by rw [hwr]; exact below_drewN B2.out q)
      have R3 := hide (show RdI wr wr.heap.size A2 (S.mem s) by rw [hwr]; exact R2.out.drewN q)
      have F3 := hide (show Below wr.heap.size wr (wr.alloc (.cells #[] 3)) from (Below.refl _ _).alloc (Nat.le_refl _) _)
      clear hwr
      go_wp2_with (at_builtin; refine apnI_arm rfl (.tmp 55) (.tmp 56) _ rfl Tryd.underlying23 wr.heap.size _ [] rfl (ownI_empty wr) wr.heap.size (S.mem s).length c2 A2 (S.mem s) rfl rfl (R3.out.alloc (Nat.le_refl _) _) (by simp; omega) (by simp) ?_; intro v4 w4 ho4 hg4)
      rw [List.nil_append] at ho4
      have B4w := hide (below_grownI F3.out (ownI_empty wr) hg4 (by simp))
      have B4 := hide (B3.out.trans (B4w.out.mono B3.out.size))
      have O4 := hide ho4
      clear ho4 hg4
      refine (F2.out w4 (HT.out.below B4.out)).mono ?_; rintro _ w5 ⟨v5, rfl, ho5, hb5⟩
      obtain ⟨A5, c5, rfl, _, _, hr5⟩ := ho5.form
      have O5 := hide (O4.out.below hb5 (Nat.le_refl _))
      have B5w := hide (B4w.out.trans (hb5.mono B4w.out.size))
      have B5 := hide (B4.out.trans (hb5.mono B4.out.size))
      have R5 := hide hr5
      have hsz := hide B5w.out.size
      clear ho5 hb5 hr5
      go_wp2_with (at_builtin; refine apnI_arm rfl (.tmp 57) (.tmp 59) _ rfl Tryd.underlying23 wr.heap.size _ (S.mem s) rfl O5.out w5.heap.size (S.mem t).length c5 A5 (S.mem t) rfl rfl R5.out (by omega) hsz.out ?_; intro v6 w6 ho6 hg6)
      have B6 := hide (B3.out.trans ((below_grownI B5w.out O5.out hg6 hsz.out).mono B3.out.size))
      have R26 := hide (R3.out.up (below_grownI B5w.out O5.out hg6 hsz.out))
      obtain ⟨A6, c6, rfl, _, _, hr6⟩ := ho6.form
      have R6 := hide hr6
      have T6 := hide (HT.out.below B6.out)
      clear ho6 hg6 hr6
      have J1 := hide (fun n : Nat => G1.out (w6.drewN n) (R26.out.drewN n))
      have J2 := hide (fun n : Nat => G2.out (w6.drewN n) A6 c6 _ rfl (R6.out.drewN n))
      have J3 := hide (fun n : Nat => G3.out (w6.drewN n))
      have J4 := hide (fun n : Nat => G4.out (w6.drewN n) (T6.out.below (below_drewN (Below.refl _ _) n)))
      generalize (S.mem s ++ S.mem t).length = m2 at *
      clear G1 G2 G3 G4
      by_cases h0 : (S.mem s).length = 0
      · rw [h0] at J1 J3 ⊢
        go_wp2_with fail
        go_quiet (first
          | (go_at_call 7; with_reducible exact Calls.quiet_of (J1.out _))
          | (go_at_call 7; with_reducible exact Calls.quiet_of (J2.out _))
          | (go_at_call 14; exact Calls.quiet_of (J3.out _))
          | (go_at_call 16; exact Calls.quiet_of_same (J4.out _)))
        go_wp2
        go_ret
        exact ⟨rfl, below_drewN B6.out _⟩
      · obtain ⟨g, o, rfl, _, hc⟩ := R26.out h0
        have hcell := hc 0 (by omega)
        rw [Nat.add_zero, show (S.mem s).getD 0 0 = S.least s by unfold S.least; cases hms : S.mem s with
          | nil => rw [hms] at h0; exact absurd rfl h0
          | cons z r => rfl] at hcell
        have hm0 : (0 : Int) < ((S.mem s).length : Int) := by omega
        have hm1 : (((S.mem s).length : Int) == 0) = false := by rw [beq_eq_false_iff_ne]; omega
        clear hc
        generalize (S.mem s).length = m at *
        generalize S.least s = z at *
        go_wp2_with fail
        go_quiet (first
          | (go_at_call 7; with_reducible exact Calls.quiet_of (J1.out _))
          | (go_at_call 7; with_reducible exact Calls.quiet_of (J2.out _))
          | (go_at_call 14; exact Calls.quiet_of (J3.out _))
          | (go_at_call 16; exact Calls.quiet_of_same (J4.out _)))
        go_wp2
        go_ret
        exact ⟨rfl, below_drewN B6.out _⟩
end Go.Proofs.YtmpgccmggapigaaDoor
