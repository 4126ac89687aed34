/- The statements' fixed fact of numbers in bytes over this program: it answers true, whatever the memory. -/
import Derived.Test.YtihdkaggjinmmaaCodeGetL
import Derived.Test.YtihdkaggjinmmaaCodeRGetL
namespace Go.Proofs.Ytihdkaggjinmmaa
open Go.RowKit

theorem V.p300 : V.put 300 = [172, 2] := by rw [V.put_ge (by decide), V.put_lt (by decide)]; rfl
theorem V.p2 : V.put 2 = [2] := V.put_lt (by decide)
theorem V.p5 : V.put 5 = [5] := V.put_lt (by decide)
theorem V.g300 : V.get [7, 172, 2] 1 = (300, 3, 0) := by decide
theorem V.g128 : V.get [128] 0 = (0, 0, 4) := by decide
theorem V.l5 : V.putL [] [5, 300] = ([2, 5, 172, 2], 0) := by
  have h : V.puts [5, 300] = [2, 5, 172, 2] := by
    show V.put 2 ++ (V.put 5 ++ (V.put 300 ++ [])) = _
    rw [V.p2, V.p5, V.p300]; rfl
  unfold V.putL; rw [if_pos (by decide), h]; rfl
theorem V.lneg : V.putL [] [-1] = ([], 1) := by unfold V.putL; rw [if_neg (by decide)]
theorem V.gl2 : V.list [2, 5, 172, 2] 0 2 = ([5, 300], 4, 0) := by decide
theorem V.gl1 : V.list [2, 5, 172, 2] 0 1 = ([], 0, 5) := by decide

set_option maxHeartbeats 1000000 in
set_option maxRecDepth 100000 in
theorem alive5_any (w : World) : Calls Try.prog 7 #[] w fun e w' => e = .returned (.bool true) ∧ Below w.heap.size w w' := by
  have L1 := hide (fun w : World => show Calls Try.prog 10 #[.slice (some ⟨w.heap.size, 0, none⟩) 1 1, .int .u32 300] (w.alloc (.cells #[.int .u8 7] 5)) (fun e w' => ∃ A c, e = .returned (.slice A 3 c) ∧ 3 ≤ c ∧ c ≤ 9223372036854775807 ∧ RdB w' w'.heap.size A [7, 172, 2] ∧ Below w.heap.size w w') by
    obtain ⟨h1, h2⟩ := litB1 w [7]
    have q := put_any _ 1 [7] 300 _ h1 (by decide) (by decide)
    rw [V.p300] at q
    refine q.mono ?_
    rintro _ w' ⟨v, rfl, ho, hb⟩
    obtain ⟨A, c, rfl, h3, hm, hr⟩ := ho.form
    exact ⟨A, c, rfl, h3, by unfold maxLen at hm; omega, hr, h2.trans (hb.mono h2.size)⟩)
  have L2 := hide (fun (w : World) (A : Option Addr) (c : Nat) (hr : RdB w w.heap.size A [7, 172, 2]) (h3 : 3 ≤ c) (hm : c ≤ 9223372036854775807) => show Calls Try.prog 8 #[.slice A 3 c, .int .i64 1] w (fun e w' => e = .returned (.tuple #[.int .u32 300, .int .i64 3, .int .i64 0]) ∧ w' = w) by
    have q := get_any A c _ [7, 172, 2] 1 w hr (bytes_lit _ (by decide)) h3 hm
    rw [V.g300] at q; exact q)
  have L3 := hide (fun w : World => show Calls Try.prog 12 #[.slice none 0 0, .slice (some ⟨w.heap.size, 0, none⟩) 2 2] (w.alloc (.cells #[.int .i64 5, .int .i64 300] 3)) (fun e w' => ∃ A c, e = .returned (.tuple #[.slice A 4 c, .int .i64 0]) ∧ 4 ≤ c ∧ c ≤ 9223372036854775807 ∧ RdB w' w'.heap.size A [2, 5, 172, 2] ∧ Below w.heap.size w w') by
    obtain ⟨h1, h2⟩ := litI1 w [5, 300]
    have q := putList_any none _ 0 2 [] [5, 300] _ (RdB.nil _ _ _) h1 (by decide) (by decide)
    rw [V.l5] at q
    refine q.mono ?_
    rintro _ w' ⟨v, rfl, ho, hb⟩
    obtain ⟨A, c, rfl, h3, hm, hr⟩ := ho.form
    exact ⟨A, c, rfl, h3, by unfold maxLen at hm; omega, hr, h2.trans (hb.mono h2.size)⟩)
  have L4 := hide (fun (w : World) (A : Option Addr) (c : Nat) (hr : RdB w w.heap.size A [2, 5, 172, 2]) (h3 : 4 ≤ c) (hm : c ≤ 9223372036854775807) => show Calls Try.prog 14 #[.slice A 4 c, .int .i64 0, .int .i64 2] w (fun e w' => ∃ A c, e = .returned (.tuple #[.slice A 2 c, .int .i64 4, .int .i64 0]) ∧ RdI w' w'.heap.size A [5, 300] ∧ Below w.heap.size w w') by
    have q := getList_any A c [2, 5, 172, 2] 0 2 w hr (bytes_lit _ (by decide)) h3 hm
    rw [V.gl2] at q
    refine q.mono ?_
    rintro _ w' ⟨v, rfl, ho, hb⟩
    obtain ⟨A, c, rfl, _, _, hr⟩ := ho.form
    exact ⟨A, c, rfl, hr, hb⟩)
  have L5 := hide (fun (w : World) (A : Option Addr) (c : Nat) (hr : RdB w w.heap.size A [2, 5, 172, 2]) (h3 : 4 ≤ c) (hm : c ≤ 9223372036854775807) => show Calls Try.prog 14 #[.slice A 4 c, .int .i64 0, .int .i64 1] w (fun e w' => ∃ v, e = .returned (.tuple #[v, .int .i64 0, .int .i64 5]) ∧ Below w.heap.size w w') by
    have q := getList_any A c [2, 5, 172, 2] 0 1 w hr (bytes_lit _ (by decide)) h3 hm
    rw [V.gl1] at q
    refine q.mono ?_
    rintro _ w' ⟨v, rfl, ho, hb⟩
    exact ⟨v, rfl, hb⟩)
  have L6 := hide (fun w : World => show Calls Try.prog 8 #[.slice (some ⟨w.heap.size, 0, none⟩) 1 1, .int .i64 0] (w.alloc (.cells #[.int .u8 128] 5)) (fun e w' => e = .returned (.tuple #[.int .u32 0, .int .i64 0, .int .i64 4]) ∧ Below w.heap.size w w') by
    obtain ⟨h1, h2⟩ := litB1 w [128]
    have q := get_any _ 1 _ [128] 0 _ h1 (bytes_lit _ (by decide)) (by decide) (by decide)
    rw [V.g128] at q
    exact q.mono (by rintro _ w' ⟨rfl, rfl⟩; exact ⟨rfl, h2⟩))
  have L7 := hide (fun w : World => show Calls Try.prog 12 #[.slice none 0 0, .slice (some ⟨w.heap.size, 0, none⟩) 1 1] (w.alloc (.cells #[.int .i64 (-1)] 3)) (fun e w' => ∃ v, e = .returned (.tuple #[v, .int .i64 1]) ∧ Below w.heap.size w w') by
    obtain ⟨h1, h2⟩ := litI1 w [-1]
    have q := putList_any none _ 0 1 [] [-1] _ (RdB.nil _ _ _) h1 (by decide) (by decide)
    rw [V.lneg] at q
    refine q.mono ?_
    rintro _ w' ⟨v, rfl, ho, hb⟩
    exact ⟨v, rfl, h2.trans (hb.mono h2.size)⟩)
  have L8 := hide (fun (w : World) (A : Option Addr) (c : Nat) (h : RdI w w.heap.size A [5, 300]) => show Calls Try.prog 16 #[.slice A 2 c, .slice (some ⟨w.heap.size, 0, none⟩) 2 2] (w.alloc (.cells #[.int .i64 5, .int .i64 300] 3)) (fun e w' => e = .returned (.bool true) ∧ Below w.heap.size w w') by
    obtain ⟨h1, h2⟩ := litI1 w [5, 300]
    have q := ints_any A (some ⟨w.heap.size, 0, none⟩) c 2 [5, 300] [5, 300] _ (h.up h2) h1 (by simp) (by simp)
    exact q.mono (by rintro e w' ⟨he, n, rfl⟩; exact ⟨by rw [he]; rfl, below_drewN h2 n⟩))
  have L9 := hide (fun (w : World) (A : Option Addr) (c : Nat) (hr : RdB w w.heap.size A [7, 172, 2]) => show (convert 22 9 (.slice A 3 c)).run Try.prog w = .ok (.string ⟨#[7, 172, 2]⟩) w from str_conv hr (bytes_lit _ (by decide)) c)
  have L10 := hide (fun (w : World) (A : Option Addr) (c : Nat) (hr : RdB w w.heap.size A [2, 5, 172, 2]) => show (convert 22 9 (.slice A 4 c)).run Try.prog w = .ok (.string ⟨#[2, 5, 172, 2]⟩) w from str_conv hr (bytes_lit _ (by decide)) c)
  go_enter Try.func7, Try.ntmps7
  go_wp2_with fail
  refine (L1.out w).mono ?_; rintro _ w1 ⟨A1, c1, rfl, hc1, hm1, hr1, hb1⟩
  have B1 := hide hb1
  have R1 := hide hr1
  have C1 := hide (And.intro hc1 hm1)
  clear hb1 hr1 hc1 hm1
  go_wp2_with fail
  refine (L2.out w1 A1 c1 R1.out C1.out.1 C1.out.2).mono ?_; rintro _ w1 ⟨rfl, rfl⟩
  go_wp2_with fail
  refine (L3.out w1).mono ?_; rintro _ w2 ⟨A2, c2, rfl, hc2, hm2, hr2, hb2⟩
  have B2 := hide (B1.out.trans (hb2.mono B1.out.size))
  have R12 := hide (R1.out.up hb2)
  have R2 := hide hr2
  have C2 := hide (And.intro hc2 hm2)
  clear hb2 hr2 hc2 hm2
  go_wp2_with fail
  refine (L4.out w2 A2 c2 R2.out C2.out.1 C2.out.2).mono ?_; rintro _ w3 ⟨A3, c3, rfl, hr3, hb3⟩
  have B3 := hide (B2.out.trans (hb3.mono B2.out.size))
  have R13 := hide (R12.out.up hb3)
  have R23 := hide (R2.out.up hb3)
  have R3 := hide hr3
  clear hb3 hr3
  go_wp2_with fail
  refine (L5.out w3 A2 c2 R23.out C2.out.1 C2.out.2).mono ?_; rintro _ w4 ⟨v4, rfl, hb4⟩
  have B4 := hide (B3.out.trans (hb4.mono B3.out.size))
  have R14 := hide (R13.out.up hb4)
  have R24 := hide (R23.out.up hb4)
  have R34 := hide (R3.out.up hb4)
  clear hb4
  go_wp2_with fail
  refine (L6.out w4).mono ?_; rintro _ w5 ⟨rfl, hb5⟩
  have B5 := hide (B4.out.trans (hb5.mono B4.out.size))
  have R15 := hide (R14.out.up hb5)
  have R25 := hide (R24.out.up hb5)
  have R35 := hide (R34.out.up hb5)
  clear hb5
  go_wp2_with fail
  refine (L7.out w5).mono ?_; rintro _ w6 ⟨v6, rfl, hb6⟩
  have B6 := hide (B5.out.trans (hb6.mono B5.out.size))
  have x1 := L9.out w6 A1 c1 (R15.out.up hb6)
  have x2 := L10.out w6 A2 c2 (R25.out.up hb6)
  have R36 := hide (R35.out.up hb6)
  clear hb6
  go_wp2_with fail
  refine (L8.out w6 A3 c3 R36.out).mono ?_; rintro _ w7 ⟨rfl, hb7⟩
  have B7 := hide (B6.out.trans (hb7.mono B6.out.size))
  clear hb7
  go_wp2
  go_ret
  exact ⟨rfl, B7.out⟩
end Go.Proofs.Ytihdkaggjinmmaa
