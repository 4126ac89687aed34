/- The statements' fixed fact of set over this program: it answers true, whatever the memory. -/
import Derived.Test.YtmpgccmggapigaaDoorRefSet
namespace Go.Proofs.YtmpgccmggapigaaDoor
open Go.RowKit

theorem s18 : S.of [4, 1, 4, 32, -1] = 18 := by decide
theorem m18 : S.mem 18 = [1, 4] := by decide
theorem h18 : S.has 18 4 = true ∧ S.has 18 2 = false := by decide
theorem c18 : S.count 18 = 2 := by decide
theorem l18 : S.least 18 = 1 ∧ S.least 0 = -1 := by decide
theorem b3 : S.below 3 = 7 := by decide

set_option maxHeartbeats 1000000 in
theorem alive3_any (w : World) (ht : Tab32 w) : Calls Tryd.prog 6 #[] w fun e w' => e = .returned (.bool true) ∧ Below w.heap.size w w' := by
  have L1 := hide (fun w : World => show Calls Tryd.prog 7 #[.slice (some ⟨w.heap.size, 0, none⟩) 5 5] (w.alloc (.cells #[.int .i64 4, .int .i64 1, .int .i64 4, .int .i64 32, .int .i64 (-1)] 3)) (fun e w' => e = .returned (.int .u32 18) ∧ Below w.heap.size w w') by
    obtain ⟨h1, h2⟩ := litI1 w [4, 1, 4, 32, -1]
    have q := of_any _ 5 _ [4, 1, 4, 32, -1] _ h1 (by simp)
    rw [s18] at q
    exact q.mono (by rintro e w' ⟨he, n, rfl⟩; exact ⟨he, below_drewN h2 n⟩))
  have L2 := hide (fun w : World => (has_any 18 4 w (by omega)).mono (R' := fun e w' => e = .returned (.bool true) ∧ w' = w) (by rw [h18.1]; exact fun _ _ h => h))
  have L3 := hide (fun w : World => (has_any 18 2 w (by omega)).mono (R' := fun e w' => e = .returned (.bool false) ∧ w' = w) (by rw [h18.2]; exact fun _ _ h => h))
  have L4 := hide (fun (w : World) (h : Tab32 w) => (members_any 18 w (by omega) h).mono (R' := fun e w' => ∃ A c, e = .returned (.slice A 2 c) ∧ RdI w' w'.heap.size A [1, 4] ∧ Below w.heap.size w w') (by
    rw [m18]; rintro _ w' ⟨v, rfl, ho, hb⟩
    obtain ⟨A, c, rfl, _, _, hr⟩ := ho.form
    exact ⟨A, c, rfl, hr, hb⟩))
  have L5 := hide (fun (w : World) (A : Option Addr) (c : Nat) (h : RdI w w.heap.size A [1, 4]) => show Calls Tryd.prog 11 #[.slice A 2 c, .slice (some ⟨w.heap.size, 0, none⟩) 2 2] (w.alloc (.cells #[.int .i64 1, .int .i64 4] 3)) (fun e w' => e = .returned (.bool true) ∧ Below w.heap.size w w') by
    obtain ⟨h1, h2⟩ := litI1 w [1, 4]
    have q := ints_any A (some ⟨w.heap.size, 0, none⟩) c 2 [1, 4] [1, 4] _ (h.up h2) h1 (by simp) (by simp)
    exact q.mono (by rintro e w' ⟨he, n, rfl⟩; exact ⟨by rw [he]; rfl, below_drewN h2 n⟩))
  have L6 := hide (fun w : World => (count_any 18 w (by omega)).mono (R' := fun e w' => e = .returned (.int .i64 2) ∧ Below w.heap.size w w') (by rw [c18]; rintro _ _ ⟨he, n, rfl⟩; exact ⟨he, below_drewN (Below.refl _ _) n⟩))
  have L7 := hide (fun (w : World) (h : Tab32 w) => (least_any 18 w (by omega) h).mono (R' := fun e w' => e = .returned (.int .i64 1) ∧ w' = w) (by rw [l18.1]; exact fun _ _ h => h))
  have L8 := hide (fun (w : World) (h : Tab32 w) => show Calls Tryd.prog 16 #[.int .u32 0] w (fun e w' => e = .returned (.int .i64 (-1)) ∧ w' = w) from (least_any 0 w (by omega) h).mono (by rw [l18.2]; exact fun _ _ h => h))
  have L9 := hide (fun w : World => (below_any 3 w).mono (R' := fun e w' => e = .returned (.int .u32 7) ∧ w' = w) (by rw [b3]; exact fun _ _ h => h))
  have HT := hide ht
  clear ht
  go_enter Tryd.func6, Tryd.ntmps6
  go_wp2_with fail
  refine (L1.out w).mono ?_; rintro _ w1 ⟨rfl, hb1⟩
  have B1 := hide hb1
  clear hb1
  go_wp2_with fail
  refine (L2.out w1).mono ?_; rintro _ w1 ⟨rfl, rfl⟩
  go_wp2_with fail
  refine (L3.out w1).mono ?_; rintro _ w1 ⟨rfl, rfl⟩
  go_wp2_with fail
  refine (L4.out w1 (HT.out.below B1.out)).mono ?_; rintro _ w2 ⟨A, c, rfl, hr2, hb2⟩
  have B2 := hide (B1.out.trans (hb2.mono B1.out.size))
  have R2 := hide hr2
  clear hb2 hr2
  go_wp2_with fail
  refine (L5.out w2 A c R2.out).mono ?_; rintro _ w3 ⟨rfl, hb3⟩
  have B3 := hide (B2.out.trans (hb3.mono B2.out.size))
  clear hb3
  go_wp2_with fail
  refine (L6.out w3).mono ?_; rintro _ w4 ⟨rfl, hb4⟩
  have B4 := hide (B3.out.trans (hb4.mono B3.out.size))
  clear hb4
  go_wp2_with fail
  refine (L7.out w4 (HT.out.below B4.out)).mono ?_; rintro _ w4 ⟨rfl, rfl⟩
  go_wp2_with fail
  refine (L8.out w4 (HT.out.below B4.out)).mono ?_; rintro _ w4 ⟨rfl, rfl⟩
  go_wp2_with fail
  refine (L9.out w4).mono ?_; rintro _ w4 ⟨rfl, rfl⟩
  go_wp2
  go_ret
  exact ⟨rfl, B4.out⟩
end Go.Proofs.YtmpgccmggapigaaDoor
