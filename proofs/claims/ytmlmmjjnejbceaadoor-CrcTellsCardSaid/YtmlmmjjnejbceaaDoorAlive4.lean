/- The statements' fixed fact of sums and frames over this program: it answers true, whatever the memory. -/
import Derived.Test.YtmlmmjjnejbceaaDoorRefOpen
namespace Go.Proofs.YtmlmmjjnejbceaaDoor
open Go.RowKit

theorem sum9 : K.sum [49, 50, 51, 52, 53, 54, 55, 56, 57] = 3421780262 := by decide +kernel
theorem sum4 : K.more (K.sum [49, 50, 51, 52]) [53, 54, 55, 56, 57] = 3421780262 := by decide +kernel
theorem frame2 : (K.frame [97, 98]).length = 6 := by decide +kernel
theorem half2 : K.valid ((K.frame [97, 98]).take 3) = false := by decide +kernel
theorem open2 : K.openS (K.frame [97, 98]) = [97, 98] := K.frame_open _
theorem str2 : K.str [97, 98] = ⟨#[97, 98]⟩ := by rfl
theorem bytes_lit (l : List Int) (h : (l.all fun z => decide (0 ≤ z) && decide (z < 256)) = true) : K.Bytes l := fun z hz => by
  have := List.all_eq_true.1 h z hz
  simpa using this

/-- Bytes that are built of a text's own: their block bears the mark of the run-time behind its last cell. -/
def cellsM (b : List Int) : Obj := .cells (b.map (Value.int .u8)).toArray 5 (b.length, b.length + 1)
theorem litM (w : World) (b : List Int) : RdB (w.alloc (cellsM b)) (w.alloc (cellsM b)).heap.size (some ⟨w.heap.size, 0, none⟩) b ∧ Below w.heap.size w (w.alloc (cellsM b)) := by
  refine ⟨fun _ => ⟨w.heap.size, 0, rfl, by simp, fun j hj => ?_⟩, (Below.refl _ _).alloc (Nat.le_refl _) _⟩
  have := World.cell?_alloc_mark w (b.map (Value.int .u8)).toArray 5 (b.length, b.length + 1) (0 + j)
  unfold cellsM
  rw [this]
  simp [hj, List.getD]
theorem lit_conv (w : World) (b : List Int) (n c : Nat) : (convert 22 22 (.slice (some ⟨w.heap.size, 0, none⟩) n c)).run Tryd.prog (w.alloc (.cells (b.map (Value.int .u8)).toArray 5)) = .ok (.slice (some ⟨w.heap.size, 0, none⟩) n c) (w.alloc (cellsM b)) := by
  have hsh : (w.alloc (.cells (b.map (Value.int .u8)).toArray 5)).shape? w.heap.size = some (5, b.length) := by
    unfold World.shape?
    rw [heap_alloc_new]; simp
  have hfr : (w.alloc (.cells (b.map (Value.int .u8)).toArray 5)).freeze ⟨w.heap.size, b.length, none⟩ 1 = w.alloc (cellsM b) := by
    have hm : ∀ (a : Array Obj) (x : Obj) (f : Obj → Obj), (a.push x).modify a.size f = a.push (f x) := by
      intro a x f
      apply Array.ext
      · simp
      · intro i h1 h2
        simp only [Array.getElem_modify, Array.getElem_push]
        by_cases h : a.size = i
        · subst h; simp
        · have hi : i < a.size := by simp at h1; omega
          simp [h, hi]
    unfold World.freeze
    rw [if_neg (by decide)]
    show ({ w with heap := (w.heap.push (.cells (b.map (Value.int .u8)).toArray 5)).modify w.heap.size _ } : World) = _
    rw [hm]
    rfl
  simp [convert, run_underlying Tryd.underlying22, run_underlying Tryd.underlying5, markStringish, hsh]
  exact hfr

set_option maxHeartbeats 1000000 in
theorem alive4_any (w : World) (ht : Fours w) : Calls Tryd.prog 7 #[] w fun e w' => e = .returned (.bool true) ∧ Below w.heap.size w w' := by
  have L1 := hide (fun (w : World) (h : Fours w) => show Calls Tryd.prog 12 #[.slice (some ⟨w.heap.size, 0, none⟩) 2 2] (w.alloc (cellsM [97, 98])) (fun e w' => ∃ A c, e = .returned (.slice A 6 c) ∧ 6 ≤ c ∧ RdB w' w'.heap.size A (K.frame [97, 98]) ∧ Below w.heap.size w w') by
    obtain ⟨h1, h2⟩ := litM w [97, 98]
    have q := frame_any _ 2 [97, 98] _ h1 (bytes_lit _ (by decide)) (by simp) (h.below h2)
    refine q.mono ?_
    rintro _ w' ⟨v, rfl, ho, hb⟩
    obtain ⟨A, c, rfl, h6, _, hr⟩ := ho.form
    rw [frame2] at h6 ⊢
    exact ⟨A, c, rfl, h6, hr, h2.trans (hb.mono h2.size)⟩)
  have L2 := hide (fun (w : World) (A : Option Addr) (c : Nat) (hr : RdB w w.heap.size A (K.frame [97, 98])) (h : Fours w) (hc : 6 ≤ c) => show Calls Tryd.prog 13 #[.slice A 6 c] w (fun e w' => ∃ A c, e = .returned (.tuple #[.slice A 2 c, .bool true]) ∧ RdB w' w'.heap.size A [97, 98] ∧ Below w.heap.size w w') by
    have q := open_any A c _ w hr (K.frame_bytes (bytes_lit _ (by decide))) (by rw [frame2]; omega) (by rw [frame2]; exact hc) h
    rw [frame2, open2, K.frame_valid] at q
    refine q.mono ?_
    rintro _ w' ⟨v, rfl, ho, hb⟩
    obtain ⟨A, c, rfl, _, _, hr⟩ := ho.form
    exact ⟨A, c, rfl, hr, hb⟩)
  have L3 := hide (fun (w : World) (A : Option Addr) (c : Nat) (hr : RdB w w.heap.size A (K.frame [97, 98])) (h : Fours w) (hc : 6 ≤ c) => show Calls Tryd.prog 13 #[.slice A 3 c] w (fun e w' => ∃ v, e = .returned (.tuple #[v, .bool false]) ∧ Below w.heap.size w w') by
    have e : ((K.frame [97, 98]).take 3).length = 3 := by rw [List.length_take, frame2]; rfl
    have q := open_any A c _ w (hr.take 3) ((K.frame_bytes (bytes_lit _ (by decide))).take 3) (by rw [e]; omega) (by rw [e]; omega) h
    rw [e, half2] at q
    refine q.mono ?_
    rintro _ w' ⟨v, rfl, ho, hb⟩
    exact ⟨v, rfl, hb⟩)
  have L4 := hide (fun (w : World) (h : Fours w) => show Calls Tryd.prog 8 #[.slice (some ⟨w.heap.size, 0, none⟩) 9 9] (w.alloc (cellsM [49, 50, 51, 52, 53, 54, 55, 56, 57])) (fun e w' => e = .returned (.int .u32 3421780262) ∧ Below w.heap.size w w') by
    obtain ⟨h1, h2⟩ := litM w [49, 50, 51, 52, 53, 54, 55, 56, 57]
    have q := sum_any _ 9 _ _ _ h1 (bytes_lit _ (by decide)) (by simp) (h.below h2)
    rw [sum9] at q
    exact q.mono (by rintro _ w' ⟨rfl, rfl⟩; exact ⟨rfl, h2⟩))
  have L5 := hide (fun (w : World) (h : Fours w) => show Calls Tryd.prog 8 #[.slice (some ⟨w.heap.size, 0, none⟩) 4 4] (w.alloc (cellsM [49, 50, 51, 52])) (fun e w' => e = .returned (.int .u32 (K.sum [49, 50, 51, 52])) ∧ Below w.heap.size w w') by
    obtain ⟨h1, h2⟩ := litM w [49, 50, 51, 52]
    have q := sum_any _ 4 _ _ _ h1 (bytes_lit _ (by decide)) (by simp) (h.below h2)
    exact q.mono (by rintro _ w' ⟨rfl, rfl⟩; exact ⟨rfl, h2⟩))
  have L6 := hide (fun (w : World) (h : Fours w) => show Calls Tryd.prog 10 #[.int .u32 (K.sum [49, 50, 51, 52]), .slice (some ⟨w.heap.size, 0, none⟩) 5 5] (w.alloc (cellsM [53, 54, 55, 56, 57])) (fun e w' => e = .returned (.int .u32 3421780262) ∧ Below w.heap.size w w') by
    obtain ⟨h1, h2⟩ := litM w [53, 54, 55, 56, 57]
    have q := more_any (K.sum [49, 50, 51, 52]) _ 5 _ _ _ (K.more_lt' _) h1 (bytes_lit _ (by decide)) (by simp) (h.below h2)
    rw [sum4] at q
    exact q.mono (by rintro _ w' ⟨rfl, rfl⟩; exact ⟨rfl, h2⟩))
  have L7 := hide (fun (w : World) (A : Option Addr) (c : Nat) (hr : RdB w w.heap.size A [97, 98]) => by
    have q := str_conv hr (bytes_lit _ (by decide)) c
    rw [str2] at q
    exact (show (convert 22 9 (.slice A 2 c)).run Tryd.prog w = .ok (.string ⟨#[97, 98]⟩) w from q))
  generalize K.sum [49, 50, 51, 52] = s4 at *
  generalize K.frame [97, 98] = fr at *
  have HT := hide ht
  clear ht
  have v2 := fun w : World => show (convert 22 22 (.slice (some ⟨w.heap.size, 0, none⟩) 2 2)).run Tryd.prog (w.alloc (.cells #[.int .u8 97, .int .u8 98] 5)) = .ok (.slice (some ⟨w.heap.size, 0, none⟩) 2 2) (w.alloc (cellsM [97, 98])) from lit_conv w [97, 98] 2 2
  have v9 := fun w : World => show (convert 22 22 (.slice (some ⟨w.heap.size, 0, none⟩) 9 9)).run Tryd.prog (w.alloc (.cells #[.int .u8 49, .int .u8 50, .int .u8 51, .int .u8 52, .int .u8 53, .int .u8 54, .int .u8 55, .int .u8 56, .int .u8 57] 5)) = .ok (.slice (some ⟨w.heap.size, 0, none⟩) 9 9) (w.alloc (cellsM [49, 50, 51, 52, 53, 54, 55, 56, 57])) from lit_conv w [49, 50, 51, 52, 53, 54, 55, 56, 57] 9 9
  have v4 := fun w : World => show (convert 22 22 (.slice (some ⟨w.heap.size, 0, none⟩) 4 4)).run Tryd.prog (w.alloc (.cells #[.int .u8 49, .int .u8 50, .int .u8 51, .int .u8 52] 5)) = .ok (.slice (some ⟨w.heap.size, 0, none⟩) 4 4) (w.alloc (cellsM [49, 50, 51, 52])) from lit_conv w [49, 50, 51, 52] 4 4
  have v5 := fun w : World => show (convert 22 22 (.slice (some ⟨w.heap.size, 0, none⟩) 5 5)).run Tryd.prog (w.alloc (.cells #[.int .u8 53, .int .u8 54, .int .u8 55, .int .u8 56, .int .u8 57] 5)) = .ok (.slice (some ⟨w.heap.size, 0, none⟩) 5 5) (w.alloc (cellsM [53, 54, 55, 56, 57])) from lit_conv w [53, 54, 55, 56, 57] 5 5
  go_enter Tryd.func7, Tryd.ntmps7
  go_wp2_with fail
  refine (L1.out w HT.out).mono ?_; rintro _ w1 ⟨A1, c1, rfl, hc1, hr1, hb1⟩
  have B1 := hide hb1
  have R1 := hide hr1
  have C1 := hide hc1
  have hc1' : (3 : Int) ≤ (c1 : Int) := by omega
  clear hb1 hr1
  go_wp2_with fail
  refine (L2.out w1 A1 c1 R1.out (HT.out.below B1.out) C1.out).mono ?_; rintro _ w2 ⟨A2, c2, rfl, hr2, hb2⟩
  have B2 := hide (B1.out.trans (hb2.mono B1.out.size))
  have R2 := hide hr2
  have R12 := hide (R1.out.up hb2)
  clear hb2 hr2
  go_wp2_with fail
  refine (L3.out w2 A1 c1 R12.out (HT.out.below B2.out) C1.out).mono ?_; rintro _ w3 ⟨v3, rfl, hb3⟩
  have B3 := hide (B2.out.trans (hb3.mono B2.out.size))
  have R23 := hide (R2.out.up hb3)
  clear hb3
  go_wp2_with fail
  refine (L4.out w3 (HT.out.below B3.out)).mono ?_; rintro _ w4 ⟨rfl, hb4⟩
  have B4 := hide (B3.out.trans (hb4.mono B3.out.size))
  have R24 := hide (R23.out.up hb4)
  clear hb4
  go_wp2_with fail
  refine (L5.out w4 (HT.out.below B4.out)).mono ?_; rintro _ w5 ⟨rfl, hb5⟩
  have B5 := hide (B4.out.trans (hb5.mono B4.out.size))
  have R25 := hide (R24.out.up hb5)
  clear hb5
  go_wp2_with fail
  refine (L6.out w5 (HT.out.below B5.out)).mono ?_; rintro _ w6 ⟨rfl, hb6⟩
  have B6 := hide (B5.out.trans (hb6.mono B5.out.size))
  have hstr := L7.out w6 A2 c2 (R25.out.up hb6)
  clear hb6
  go_wp2
  go_ret
  exact ⟨rfl, B6.out⟩
end Go.Proofs.YtmlmmjjnejbceaaDoor
